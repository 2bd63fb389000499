/-
  With how many same heads two chains begin is what the specification says, for every two lists of heads. The package variables that the row lists are as the program's text lays them.
-/
import Derived.Test.YtkdeaekheeflaaaGreatDoorPart1
import Derived.Test.YtkdeaekheeflaaaGreatDoorPart2
import Derived.Test.YtkdeaekheeflaaaGreatDoorPart3
import Derived.Test.YtkdeaekheeflaaaGreatDoorPart4
import Derived.Test.YtkdeaekheeflaaaGreatDoorPart5
import Derived.Deep.RegionHeld3
import Derived.Laws.StructEq
import Derived.BigRegion
import Derived.Test.YtkdeaekheeflaaaGreatDoorCards
import Derived.Test.YtkdeaekheeflaaaGreatDoorTie
import Derived.WalkKit
import Derived.ProofKit
import Derived.OpenShut
import Derived.ShutString
import Derived.ChangeOld
import Derived.ChangeVars
import Derived.Below
import Derived.Carry
import Derived.Deep.DeepHandedRow
import Derived.Lib.LaidTab
set_option linter.unusedVariables false
namespace Go.Proofs.YtkdeaekheeflaaaGreatDoor
open Go.RowKit Go.Deep

def diffV (l : List HeadV) : Int := if chainCk l = 0 then hardV l else 0
def wrkH (l : List HeadV) : Nat → Int
  | 0 => 0
  | k + 1 => wrkH l k + (l.getD k default).diff
def workV (l : List HeadV) : Int := if chainCk l = 0 then wrkH l l.length else -1
theorem wrkH_in {l : List HeadV} (h : ∀ i, i < l.length → headOkB (l.getD i default) = true) : ∀ k, k ≤ l.length → (k : Int) ≤ wrkH l k ∧ wrkH l k ≤ 8 * (k : Int)
  | 0, _ => by simp [wrkH]
  | k + 1, hk => by
    have ih := wrkH_in h k (by omega)
    have hd := (headOk_in (h k (by omega))).2.2.2.1
    rw [wrkH]
    omega
theorem Chain.whole {g n cap : Nat} {l : List HeadV} {w : World} (h : Chain g n cap l w) (hc : chainCk l = 0) : Ahead g n l w := ⟨h.at_, h.len, h.max, ck_ok hc, h.k, h.p⟩

set_option maxHeartbeats 1000000 in
set_option maxRecDepth 100000 in
theorem implChainDiff (g n cap : Nat) (l : List HeadV) (w : World) (hC : Chain g n cap l w) (hE : ErrT w) :
    Calls Tryz.prog 15 #[.slice (some ⟨g, 0, none⟩) n cap] w fun e w' => e = .returned (.int .i64 (diffV l)) ∧ Below w.heap.size w w' := by
  have hck := implChainCheck g n cap l w hC hE
  by_cases hc : chainCk l = 0
  · have HV : Hid (diffV l = hardV l) := by show _ = _; rw [diffV, if_pos hc]
    have hhd := fun w' (hb : Below w.heap.size w w') => implChainHard g n cap l w' ((hC.whole hc).below hb).at_ hC.len hC.max (ck_ok hc)
    rw [hc] at hck
    generalize hardV l = H at HV hhd
    clear hC hE hc
    go_enter Tryz.func15, Tryz.ntmps15
    go_wp2_with fail
    refine hck.mono ?_
    rintro e w1 ⟨rfl, b1⟩
    go_wp2_with fail
    refine (hhd _ b1).mono ?_
    rintro e w2 ⟨rfl, b2⟩
    go_wp2_with fail
    go_ret
    exact ⟨by rw [HV.out]; rfl, b1.trans (b2.mono b1.size)⟩
  · have HV : Hid (diffV l = 0) := by show _ = _; rw [diffV, if_neg hc]
    have hc' : ¬ (chainCk l : Int) = 0 := by omega
    generalize chainCk l = c at hck hc'
    clear hC hE hc
    go_enter Tryz.func15, Tryz.ntmps15
    go_wp2_with fail
    refine hck.mono ?_
    rintro e w1 ⟨rfl, b1⟩
    go_wp2_with fail
    go_ret
    exact ⟨by rw [HV.out]; rfl, b1⟩

set_option maxHeartbeats 1000000 in
set_option maxRecDepth 100000 in
theorem specChainDiff (g n cap : Nat) (l : List HeadV) (w : World) (hC : ChainSp g n cap l w) :
    Calls Tryz.prog 14 #[.slice (some ⟨g, 0, none⟩) n cap] w fun e w' => e = .returned (.int .i64 (diffV l)) ∧ Below w.heap.size w w' := by
  have hck := specL4Check g n cap l w hC
  by_cases hc : chainCk l = 0
  · have HV : Hid (diffV l = hardV l) := by show _ = _; rw [diffV, if_pos hc]
    have hhd := fun w' (hb : Below w.heap.size w w') => specL4Diff g n cap l w' ((hC.below hb).whole hc)
    rw [hc] at hck
    generalize hardV l = H at HV hhd
    clear hC hc
    go_enter Tryz.func14, Tryz.ntmps14
    go_wp2_with fail
    refine hck.mono ?_
    rintro e w1 ⟨rfl, b1⟩
    go_wp2_with fail
    refine (hhd _ b1).mono ?_
    rintro e w2 ⟨rfl, b2⟩
    go_wp2_with fail
    go_ret
    exact ⟨by rw [HV.out]; rfl, b1.trans (b2.mono b1.size)⟩
  · have HV : Hid (diffV l = 0) := by show _ = _; rw [diffV, if_neg hc]
    have hc' : ¬ (chainCk l : Int) = 0 := by omega
    generalize chainCk l = c at hck hc'
    clear hC hc
    go_enter Tryz.func14, Tryz.ntmps14
    go_wp2_with fail
    refine hck.mono ?_
    rintro e w1 ⟨rfl, b1⟩
    go_wp2_with fail
    go_ret
    exact ⟨by rw [HV.out]; rfl, b1⟩

set_option maxHeartbeats 1000000 in
set_option maxRecDepth 100000 in
theorem implChainWork (g n cap : Nat) (l : List HeadV) (w : World) (hC : Chain g n cap l w) (hE : ErrT w) :
    Calls Tryz.prog 17 #[.slice (some ⟨g, 0, none⟩) n cap] w fun e w' => e = .returned (.int .i64 (workV l)) ∧ Below w.heap.size w w' := by
  have hck := implChainCheck g n cap l w hC hE
  by_cases hc : chainCk l = 0
  · have HV : Hid (workV l = wrkH l n) := by show _ = _; rw [workV, if_pos hc, ← hC.len]
    have HA : Hid (AtHead w g l) := hC.at_
    have HLn : Hid (n = l.length) := hC.len
    have HOK : Hid (∀ i, i < l.length → headOkB (l.getD i default) = true) := ck_ok hc
    have hn20 : n ≤ 20 := by rw [hC.len]; exact ck_len hc
    rw [hc] at hck
    clear hC hE hc
    go_enter Tryz.func17, Tryz.ntmps17
    go_wp2_with fail
    refine hck.mono ?_
    rintro e w1 ⟨rfl, b1⟩
    have B1 : Hid (Below w.heap.size w w1) := b1
    clear b1 hck
    go_wp2_with fail
    go_loopw [3, 11] (fun m i wr => ∃ (k : Nat) (x : Int), k ≤ n ∧ i = .int .i64 (k : Int) ∧ m = .int .i64 x ∧ 0 ≤ x ∧ x ≤ 8 * (k : Int) ∧ Hid (x = wrkH l k) ∧ Hid (Below w.heap.size w wr)) (fun _ i _ => n - (intOf i).toNat)
    case atStart => exact ⟨0, 0, by omega, rfl, rfl, by omega, by omega, rfl, B1⟩
    case round =>
      obtain ⟨k, x, hk, rfl, rfl, hx0, hx1, HX, HB⟩ := hrel
      by_cases hlt : k < n
      · have hkl : k < l.length := by rw [← HLn.out]; exact hlt
        have HAr : Hid (AtHead wr g l) := HA.out.below HB.out HA.out.1
        have c0 := AtHead.c0 HAr.out k hkl
        have c1 := AtHead.c1 HAr.out k hkl
        have c2 := AtHead.c2 HAr.out k hkl
        have c3 := AtHead.c3 HAr.out k hkl
        have c4 := AtHead.c4 HAr.out k hkl
        have hd := (headOk_in (HOK.out k hkl)).2.2.2.1
        have lk : (k : Int) < (n : Int) := by omega
        have lk0 : (0 : Int) ≤ (k : Int) := by omega
        have HK : Hid (k + 1 ≤ n) := hlt
        have HC : Hid (wrkH l (k + 1) = x + (l.getD k default).diff) := by show _ = _; rw [wrkH, ← HX.out]
        generalize l.getD k default = p at c0 c1 c2 c3 c4 hd HC
        have hwx : IntKind.i64.wrap (x + p.diff) = x + p.diff := by rw [IntKind.wrap_i64]; omega
        clear hkl
        go_wp2_with fail
        go_roundw
        case rel => exact ⟨k + 1, x + p.diff, HK.out, by go_num, rfl, by omega, by omega, HC.out.symm, HB.out.alloc HB.out.size _⟩
        case measure => have := HK.out; simp [intOf]; omega
      · obtain rfl : k = n := by omega
        go_wp2_with fail
        go_ret
        exact ⟨by rw [HV.out, ← HX.out]; rfl, HB.out⟩
  · have HV : Hid (workV l = -1) := by show _ = _; rw [workV, if_neg hc]
    have hc' : ¬ (chainCk l : Int) = 0 := by omega
    generalize chainCk l = c at hck hc'
    clear hC hE hc
    go_enter Tryz.func17, Tryz.ntmps17
    go_wp2_with fail
    refine hck.mono ?_
    rintro e w1 ⟨rfl, b1⟩
    go_wp2_with fail
    go_ret
    exact ⟨by rw [HV.out]; rfl, b1⟩

set_option maxHeartbeats 1000000 in
set_option maxRecDepth 100000 in
theorem specL4Work (g n cap : Nat) (l : List HeadV) (w : World) (hA : AheadS g n l w) :
    Calls Tryz.prog 33 #[.slice (some ⟨g, 0, none⟩) n cap] w fun e w' => e = .returned (.int .i64 (wrkH l n)) ∧ w' = w := by
  have HA : Hid (AtHead w g l) := hA.at_
  have HLn : Hid (n = l.length) := hA.len
  have HOK : Hid (∀ i, i < l.length → headOkB (l.getD i default) = true) := hA.ok
  have hm := hA.max
  clear hA
  go_enter Tryz.func33, Tryz.ntmps33
  go_wp2_with fail
  go_loopw [3, 4] (fun m i wr => ∃ (k : Nat) (x : Int), k ≤ n ∧ i = .int .i64 (k : Int) ∧ m = .int .i64 x ∧ 0 ≤ x ∧ x ≤ 8 * (k : Int) ∧ Hid (x = wrkH l k) ∧ wr = w) (fun _ i _ => n - (intOf i).toNat)
  case atStart => exact ⟨0, 0, by omega, rfl, rfl, by omega, by omega, rfl, rfl⟩
  case round =>
    obtain ⟨k, x, hk, rfl, rfl, hx0, hx1, HX, rfl⟩ := hrel
    by_cases hlt : k < n
    · have hkl : k < l.length := by rw [← HLn.out]; exact hlt
      have c3 := AtHead.c3 HA.out k hkl
      have hd := (headOk_in (HOK.out k hkl)).2.2.2.1
      have lk : (k : Int) < (n : Int) := by omega
      have lk0 : (0 : Int) ≤ (k : Int) := by omega
      have HK : Hid (k + 1 ≤ n) := hlt
      have HC : Hid (wrkH l (k + 1) = x + (l.getD k default).diff) := by show _ = _; rw [wrkH, ← HX.out]
      generalize l.getD k default = p at c3 hd HC
      have hwx : IntKind.i64.wrap (x + p.diff) = x + p.diff := by rw [IntKind.wrap_i64]; omega
      clear hkl
      go_wp2_with fail
      go_roundw
      case rel => exact ⟨k + 1, x + p.diff, HK.out, by go_num, rfl, by omega, by omega, HC.out.symm, by first | rfl | trivial⟩
      case measure => have := HK.out; simp [intOf]; omega
    · obtain rfl : k = n := by omega
      go_wp2_with fail
      go_ret
      exact ⟨by rw [← HX.out]; rfl, rfl⟩

set_option maxHeartbeats 1000000 in
set_option maxRecDepth 100000 in
theorem specChainWork (g n cap : Nat) (l : List HeadV) (w : World) (hC : ChainSp g n cap l w) :
    Calls Tryz.prog 16 #[.slice (some ⟨g, 0, none⟩) n cap] w fun e w' => e = .returned (.int .i64 (workV l)) ∧ Below w.heap.size w w' := by
  have hck := specL4Check g n cap l w hC
  by_cases hc : chainCk l = 0
  · have HV : Hid (workV l = wrkH l n) := by show _ = _; rw [workV, if_pos hc, ← hC.len]
    have hhd := fun w' (hb : Below w.heap.size w w') => specL4Work g n cap l w' ((hC.below hb).whole hc)
    rw [hc] at hck
    generalize wrkH l n = H at HV hhd
    clear hC hc
    go_enter Tryz.func16, Tryz.ntmps16
    go_wp2_with fail
    refine hck.mono ?_
    rintro e w1 ⟨rfl, b1⟩
    go_wp2_with fail
    refine (hhd _ b1).mono ?_
    rintro e w2 ⟨rfl, rfl⟩
    go_wp2_with fail
    go_ret
    exact ⟨by rw [HV.out]; rfl, b1⟩
  · have HV : Hid (workV l = -1) := by show _ = _; rw [workV, if_neg hc]
    have hc' : ¬ (chainCk l : Int) = 0 := by omega
    generalize chainCk l = c at hck hc'
    clear hC hc
    go_enter Tryz.func16, Tryz.ntmps16
    go_wp2_with fail
    refine hck.mono ?_
    rintro e w1 ⟨rfl, b1⟩
    go_wp2_with fail
    go_ret
    exact ⟨by rw [HV.out]; rfl, b1⟩

end Go.Proofs.YtkdeaekheeflaaaGreatDoor

set_option linter.unusedVariables false
namespace Go.Proofs.YtkdeaekheeflaaaGreatDoor
open Go.RowKit Go.Deep

def betterB (a b : List HeadV) : Bool := if wrkH a a.length = wrkH b b.length ∧ a.length ≠ 0 ∧ b.length ≠ 0 then Op.bytesLess (sumB (headX (lastH a))) (sumB (headX (lastH b))) else decide (wrkH b b.length < wrkH a a.length)
def chainBetterB (a b : List HeadV) : Bool := decide (chainCk a = 0) && (decide (chainCk b = 0) && betterB a b)
theorem cb_no1 {a b : List HeadV} (h : chainCk a ≠ 0) : chainBetterB a b = false := by rw [chainBetterB, decide_eq_false h, Bool.false_and]
theorem cb_no2 {a b : List HeadV} (h : chainCk b ≠ 0) : chainBetterB a b = false := by rw [chainBetterB, decide_eq_false h, Bool.false_and, Bool.and_false]
theorem cb_yes {a b : List HeadV} (h1 : chainCk a = 0) (h2 : chainCk b = 0) : chainBetterB a b = betterB a b := by rw [chainBetterB, decide_eq_true h1, decide_eq_true h2]; rfl
theorem better_work {a b : List HeadV} (h : ¬ (wrkH a a.length = wrkH b b.length ∧ a.length ≠ 0 ∧ b.length ≠ 0)) : betterB a b = decide (wrkH b b.length < wrkH a a.length) := by rw [betterB, if_neg h]
theorem better_last {a b : List HeadV} (h1 : wrkH a a.length = wrkH b b.length) (h2 : a.length ≠ 0) (h3 : b.length ≠ 0) : betterB a b = Op.bytesLess (sumB (headX (lastH a))) (sumB (headX (lastH b))) := by rw [betterB, if_pos ⟨h1, h2, h3⟩]
theorem workV_no {l : List HeadV} (h : chainCk l ≠ 0) : workV l = -1 := by rw [workV, if_neg h]
theorem workV_yes {l : List HeadV} (h : chainCk l = 0) : workV l = wrkH l l.length := by rw [workV, if_pos h]
/-- The last head in memory. -/
structure LastAt (g n j : Nat) (p : HeadV) (w : World) : Prop where
  c0 : w.cell? ⟨g, j * 5, none⟩ = some (.string p.prev)
  c1 : w.cell? ⟨g, j * 5 + 1, none⟩ = some (.string p.root)
  c2 : w.cell? ⟨g, j * 5 + 2, none⟩ = some (.int .i64 p.time)
  c3 : w.cell? ⟨g, j * 5 + 3, none⟩ = some (.int .i64 p.diff)
  c4 : w.cell? ⟨g, j * 5 + 4, none⟩ = some (.int .i64 p.nonce)
  lt : g < w.heap.size
  w1 : IntKind.i64.wrap ((n : Int) - 1) = (j : Int)
  lj : (j : Int) < (n : Int)
theorem LastAt.below {g n j : Nat} {p : HeadV} {w w' : World} (h : LastAt g n j p w) (hb : Below w.heap.size w w') : LastAt g n j p w' :=
  ⟨(hb.cell (p := ⟨g, j * 5, none⟩) h.lt).trans h.c0, (hb.cell (p := ⟨g, j * 5 + 1, none⟩) h.lt).trans h.c1, (hb.cell (p := ⟨g, j * 5 + 2, none⟩) h.lt).trans h.c2, (hb.cell (p := ⟨g, j * 5 + 3, none⟩) h.lt).trans h.c3, (hb.cell (p := ⟨g, j * 5 + 4, none⟩) h.lt).trans h.c4, Nat.lt_of_lt_of_le h.lt hb.size, h.w1, h.lj⟩
theorem AtHead.last {w : World} {g n : Nat} {l : List HeadV} (h : AtHead w g l) (hn : n = l.length) (hm : n ≤ 1048576) (h0 : n ≠ 0) : LastAt g n (n - 1) (lastH l) w := by
  have hj : n - 1 < l.length := by omega
  have e : lastH l = l.getD (n - 1) default := by rw [lastH, hn]
  rw [e]
  exact ⟨h.c0 _ hj, h.c1 _ hj, h.c2 _ hj, h.c3 _ hj, h.c4 _ hj, h.1, by rw [IntKind.wrap_i64]; omega, by omega⟩

set_option maxHeartbeats 1000000 in
set_option maxRecDepth 100000 in
theorem implChainBetter (ga na ca gb nb cb : Nat) (la lb : List HeadV) (w : World) (hA : Chain ga na ca la w) (hB : Chain gb nb cb lb w) (hE : ErrT w) :
    Calls Tryz.prog 19 #[.slice (some ⟨ga, 0, none⟩) na ca, .slice (some ⟨gb, 0, none⟩) nb cb] w fun e w' => e = .returned (.bool (chainBetterB la lb)) ∧ Below w.heap.size w w' := by
  have hwa := implChainWork ga na ca la w hA hE
  have hwb := fun w' (hb : Below w.heap.size w w') => implChainWork gb nb cb lb w' (hB.below hb) (hE.below hb hE.lt)
  by_cases ha : chainCk la = 0
  · by_cases hb : chainCk lb = 0
    · have HV : Hid (chainBetterB la lb = betterB la lb) := cb_yes ha hb
      have hxa := wrkH_in (ck_ok ha) la.length (Nat.le_refl _)
      have hxb := wrkH_in (ck_ok hb) lb.length (Nat.le_refl _)
      rw [workV_yes ha] at hwa
      rw [workV_yes hb] at hwb
      have HBW : Hid (¬ (wrkH la la.length = wrkH lb lb.length ∧ la.length ≠ 0 ∧ lb.length ≠ 0) → betterB la lb = decide (wrkH lb lb.length < wrkH la la.length)) := better_work
      have HBL : Hid (wrkH la la.length = wrkH lb lb.length → la.length ≠ 0 → lb.length ≠ 0 → betterB la lb = Op.bytesLess (sumB (headX (lastH la))) (sumB (headX (lastH lb)))) := better_last
      have HLa : Hid (na ≠ 0 → LastAt ga na (na - 1) (lastH la) w) := fun h0 => hA.at_.last hA.len hA.max h0
      have HLb : Hid (nb ≠ 0 → LastAt gb nb (nb - 1) (lastH lb) w) := fun h0 => hB.at_.last hB.len hB.max h0
      have HOa : Hid (na ≠ 0 → headOkB (lastH la) = true) := fun h0 => lastH_ok (by rw [← hA.len]; omega) (ck_ok ha)
      have HOb : Hid (nb ≠ 0 → headOkB (lastH lb) = true) := fun h0 => lastH_ok (by rw [← hB.len]; omega) (ck_ok hb)
      have hsa := fun w' hk hp => implHeadSum (lastH la) w' hk hp
      have hsb := fun w' hk hp => implHeadSum (lastH lb) w' hk hp
      have HK : Hid (∀ w', Below w.heap.size w w' → RowG w' shaK ∧ TabP w') := fun w' hb => ⟨(hA.below hb).k, (hA.below hb).p⟩
      rw [← hA.len] at HBW HBL hwa hxa
      rw [← hB.len] at HBW HBL hwb hxb
      generalize chainBetterB la lb = R at HV ⊢
      generalize betterB la lb = R2 at HV HBW HBL
      generalize wrkH la na = x at hwa hxa HBW HBL
      generalize wrkH lb nb = y at hwb hxb HBW HBL
      have hx0 : ¬ x < 0 := by omega
      have hy0 : ¬ y < 0 := by omega
      clear hA hB hE ha hb hxa hxb
      by_cases hxy : x = y
      · subst hxy
        by_cases h0 : na = 0
        · have HV2 : Hid (R = false) := by
            show _ = _
            rw [HV.out, HBW.out (by omega), decide_eq_false (by omega)]
          clear HV HBW HBL HLa HLb hsa hsb HOa HOb HK
          subst h0
          go_enter Tryz.func19, Tryz.ntmps19
          go_wp2_with fail
          refine hwa.mono ?_
          rintro e w1 ⟨rfl, b1⟩
          go_wp2_with fail
          refine (hwb _ b1).mono ?_
          rintro e w2 ⟨rfl, b2⟩
          go_wp2_with fail
          go_ret
          exact ⟨by rw [HV2.out]; rfl, b1.trans (b2.mono b1.size)⟩
        · by_cases h1 : nb = 0
          · have HV2 : Hid (R = false) := by
              show _ = _
              rw [HV.out, HBW.out (by omega), decide_eq_false (by omega)]
            have hn0 : ¬ (na : Int) = 0 := by omega
            clear HV HBW HBL HLa HLb hsa hsb HOa HOb HK h0
            subst h1
            go_enter Tryz.func19, Tryz.ntmps19
            go_wp2_with fail
            refine hwa.mono ?_
            rintro e w1 ⟨rfl, b1⟩
            go_wp2_with fail
            refine (hwb _ b1).mono ?_
            rintro e w2 ⟨rfl, b2⟩
            go_wp2_with fail
            go_ret
            exact ⟨by rw [HV2.out]; rfl, b1.trans (b2.mono b1.size)⟩
          · have HV2 : Hid (R = Op.bytesLess (sumB (headX (lastH la))) (sumB (headX (lastH lb)))) := by show _ = _; rw [HV.out, HBL.out rfl h0 h1]
            rw [headSum_yes (HOa.out h0)] at hsa
            rw [headSum_yes (HOb.out h1)] at hsb
            have LA := HLa.out h0
            have LB := HLb.out h1
            have LA' : Hid (LastAt ga na (na - 1) (lastH la) w) := LA
            have LB' : Hid (LastAt gb nb (nb - 1) (lastH lb) w) := LB
            have hn0 : ((na : Int) == 0) = false := beq_eq_false_iff_ne.2 (by omega)
            have hn1 : ((nb : Int) == 0) = false := beq_eq_false_iff_ne.2 (by omega)
            generalize sumB (headX (lastH la)) = sa at hsa HV2
            generalize sumB (headX (lastH lb)) = sb at hsb HV2
            generalize lastH la = p at hsa LA LA'
            generalize lastH lb = q at hsb LB LB'
            unfold headVal at hsa hsb
            obtain ⟨_, _, _, _, _, _, va, ja⟩ := LA
            obtain ⟨_, _, _, _, _, _, vb, jb⟩ := LB
            generalize na - 1 = i at LA' va ja
            generalize nb - 1 = j at LB' vb jb
            clear HV HBW HBL HLa HLb HOa HOb h0 h1
            have i0 : (0 : Int) ≤ (i : Int) := by omega
            have j0 : (0 : Int) ≤ (j : Int) := by omega
            go_enter Tryz.func19, Tryz.ntmps19
            go_wp2_with fail
            refine hwa.mono ?_
            rintro e w1 ⟨rfl, b1⟩
            go_wp2_with fail
            refine (hwb _ b1).mono ?_
            rintro e w2 ⟨rfl, b2⟩
            have B2 : Hid (Below w.heap.size w w2) := b1.trans (b2.mono b1.size)
            clear b1 b2 hwa hwb
            obtain ⟨c0, c1, c2, c3, c4, _, _, _⟩ := LA'.out.below B2.out
            obtain ⟨d0, d1, d2, d3, d4, _, _, _⟩ := LB'.out.below B2.out
            go_wp2_with fail
            have HS : Hid (∀ w', Below w.heap.size w w' → (fun w' => (w'.cell? ⟨ga, i * 5, none⟩ = some (.string p.prev) ∧ w'.cell? ⟨ga, i * 5 + 1, none⟩ = some (.string p.root) ∧ w'.cell? ⟨ga, i * 5 + 2, none⟩ = some (.int .i64 p.time) ∧ w'.cell? ⟨ga, i * 5 + 3, none⟩ = some (.int .i64 p.diff) ∧ w'.cell? ⟨ga, i * 5 + 4, none⟩ = some (.int .i64 p.nonce)) ∧ (w'.cell? ⟨gb, j * 5, none⟩ = some (.string q.prev) ∧ w'.cell? ⟨gb, j * 5 + 1, none⟩ = some (.string q.root) ∧ w'.cell? ⟨gb, j * 5 + 2, none⟩ = some (.int .i64 q.time) ∧ w'.cell? ⟨gb, j * 5 + 3, none⟩ = some (.int .i64 q.diff) ∧ w'.cell? ⟨gb, j * 5 + 4, none⟩ = some (.int .i64 q.nonce))) w') := fun w' hb => ⟨⟨(LA'.out.below hb).c0, (LA'.out.below hb).c1, (LA'.out.below hb).c2, (LA'.out.below hb).c3, (LA'.out.below hb).c4⟩, ⟨(LB'.out.below hb).c0, (LB'.out.below hb).c1, (LB'.out.below hb).c2, (LB'.out.below hb).c3, (LB'.out.below hb).c4⟩⟩
            clear c0 c1 c2 c3 c4 d0 d1 d2 d3 d4
            go_region_held3 (fun w' => (w'.cell? ⟨ga, i * 5, none⟩ = some (.string p.prev) ∧ w'.cell? ⟨ga, i * 5 + 1, none⟩ = some (.string p.root) ∧ w'.cell? ⟨ga, i * 5 + 2, none⟩ = some (.int .i64 p.time) ∧ w'.cell? ⟨ga, i * 5 + 3, none⟩ = some (.int .i64 p.diff) ∧ w'.cell? ⟨ga, i * 5 + 4, none⟩ = some (.int .i64 p.nonce)) ∧ (w'.cell? ⟨gb, j * 5, none⟩ = some (.string q.prev) ∧ w'.cell? ⟨gb, j * 5 + 1, none⟩ = some (.string q.root) ∧ w'.cell? ⟨gb, j * 5 + 2, none⟩ = some (.int .i64 q.time) ∧ w'.cell? ⟨gb, j * 5 + 3, none⟩ = some (.int .i64 q.diff) ∧ w'.cell? ⟨gb, j * 5 + 4, none⟩ = some (.int .i64 q.nonce)))
              (first | (with_reducible first | exact HS.out _ B4.out | exact HS.out _ B3.out | exact HS.out _ B2.out.drew | exact HS.out _ B2.out) | go_keep)
              (first
                | (go_at_call_of 23 (Value.agg #[.string p.prev, .string p.root, .int .i64 p.time, .int .i64 p.diff, .int .i64 p.nonce]); refine (hsa _ (HK.out _ B2.out.drew).1 (HK.out _ B2.out.drew).2).mono ?_; rintro e w3 ⟨rfl, b3⟩; have B3 : Hid (Below w.heap.size w w3) := B2.out.drew.trans (b3.mono B2.out.size))
                | (go_at_call_of 23 (Value.agg #[.string q.prev, .string q.root, .int .i64 q.time, .int .i64 q.diff, .int .i64 q.nonce]); refine (hsb _ (HK.out _ B3.out).1 (HK.out _ B3.out).2).mono ?_; rintro e w4 ⟨rfl, b4⟩; have B4 : Hid (Below w.heap.size w w4) := B3.out.trans (b4.mono B3.out.size)))
            go_wp2_with fail
            go_ret
            exact ⟨by rw [HV2.out]; rfl, B4.out⟩
      · have HV2 : Hid (R = decide (y < x)) := by show _ = _; rw [HV.out, HBW.out (by omega)]
        clear HV HBW HBL HLa HLb hsa hsb HOa HOb HK
        go_enter Tryz.func19, Tryz.ntmps19
        go_wp2_with fail
        refine hwa.mono ?_
        rintro e w1 ⟨rfl, b1⟩
        go_wp2_with fail
        refine (hwb _ b1).mono ?_
        rintro e w2 ⟨rfl, b2⟩
        go_wp2_with fail
        go_ret
        exact ⟨by rw [HV2.out]; rfl, b1.trans (b2.mono b1.size)⟩
    · have HV : Hid (chainBetterB la lb = false) := cb_no2 hb
      rw [workV_no hb] at hwb
      have hx := workV_yes ha
      have hxa := wrkH_in (ck_ok ha) la.length (Nat.le_refl _)
      have hx0 : ¬ workV la < 0 := by omega
      generalize workV la = x at hwa hx0
      clear hA hB hE ha hb hx hxa
      go_enter Tryz.func19, Tryz.ntmps19
      go_wp2_with fail
      refine hwa.mono ?_
      rintro e w1 ⟨rfl, b1⟩
      go_wp2_with fail
      refine (hwb _ b1).mono ?_
      rintro e w2 ⟨rfl, b2⟩
      go_wp2_with fail
      go_ret
      exact ⟨by rw [HV.out]; rfl, b1.trans (b2.mono b1.size)⟩
  · have HV : Hid (chainBetterB la lb = false) := cb_no1 ha
    rw [workV_no ha] at hwa
    generalize workV lb = y at hwb
    clear hA hB hE ha
    go_enter Tryz.func19, Tryz.ntmps19
    go_wp2_with fail
    refine hwa.mono ?_
    rintro e w1 ⟨rfl, b1⟩
    go_wp2_with fail
    refine (hwb _ b1).mono ?_
    rintro e w2 ⟨rfl, b2⟩
    go_wp2_with fail
    go_ret
    exact ⟨by rw [HV.out]; rfl, b1.trans (b2.mono b1.size)⟩

set_option maxHeartbeats 1000000 in
set_option maxRecDepth 100000 in
theorem specL4Better (ga na ca gb nb cb : Nat) (la lb : List HeadV) (w : World) (hA : AheadS ga na la w) (hB : AheadS gb nb lb w) :
    Calls Tryz.prog 34 #[.slice (some ⟨ga, 0, none⟩) na ca, .slice (some ⟨gb, 0, none⟩) nb cb] w fun e w' => e = .returned (.bool (betterB la lb)) ∧ Below w.heap.size w w' := by
  have hwa := specL4Work ga na ca la w hA
  have hwb := specL4Work gb nb cb lb w hB
  have HBW : Hid (¬ (wrkH la la.length = wrkH lb lb.length ∧ la.length ≠ 0 ∧ lb.length ≠ 0) → betterB la lb = decide (wrkH lb lb.length < wrkH la la.length)) := better_work
  have HBL : Hid (wrkH la la.length = wrkH lb lb.length → la.length ≠ 0 → lb.length ≠ 0 → betterB la lb = Op.bytesLess (sumB (headX (lastH la))) (sumB (headX (lastH lb)))) := better_last
  have HLa : Hid (na ≠ 0 → LastAt ga na (na - 1) (lastH la) w) := fun h0 => hA.at_.last hA.len hA.max h0
  have HLb : Hid (nb ≠ 0 → LastAt gb nb (nb - 1) (lastH lb) w) := fun h0 => hB.at_.last hB.len hB.max h0
  have HOa : Hid (na ≠ 0 → headOkB (lastH la) = true) := fun h0 => lastH_ok (by rw [← hA.len]; omega) hA.ok
  have HOb : Hid (nb ≠ 0 → headOkB (lastH lb) = true) := fun h0 => lastH_ok (by rw [← hB.len]; omega) hB.ok
  rw [← hA.len, ← hB.len] at HBW HBL
  generalize betterB la lb = R at HBW HBL ⊢
  generalize wrkH la na = x at hwa HBW HBL
  generalize wrkH lb nb = y at hwb HBW HBL
  clear hA hB
  by_cases hxy : x = y
  · subst hxy
    by_cases h0 : na = 0
    · have HV2 : Hid (R = false) := by show _ = _; rw [HBW.out (by omega), decide_eq_false (by omega)]
      clear HBW HBL HLa HLb HOa HOb
      subst h0
      go_enter Tryz.func34, Tryz.ntmps34
      go_wp2_with fail
      refine hwa.mono ?_
      rintro e w1 ⟨rfl, hq1⟩
      have hq1' := hq1.symm
      subst hq1'
      go_wp2_with fail
      refine hwb.mono ?_
      rintro e w2 ⟨rfl, hq2⟩
      have hq2' := hq2.symm
      subst hq2'
      go_wp2_with fail
      go_ret
      exact ⟨by rw [HV2.out]; rfl, Below.refl _ _⟩
    · by_cases h1 : nb = 0
      · have HV2 : Hid (R = false) := by show _ = _; rw [HBW.out (by omega), decide_eq_false (by omega)]
        have hn0 : ¬ (na : Int) = 0 := by omega
        clear HBW HBL HLa HLb HOa HOb h0
        subst h1
        go_enter Tryz.func34, Tryz.ntmps34
        go_wp2_with fail
        refine hwa.mono ?_
        rintro e w1 ⟨rfl, hq1⟩
        have hq1' := hq1.symm
        subst hq1'
        go_wp2_with fail
        refine hwb.mono ?_
        rintro e w2 ⟨rfl, hq2⟩
        have hq2' := hq2.symm
        subst hq2'
        go_wp2_with fail
        go_ret
        exact ⟨by rw [HV2.out]; rfl, Below.refl _ _⟩
      · have HV2 : Hid (R = Op.bytesLess (sumB (headX (lastH la))) (sumB (headX (lastH lb)))) := HBL.out rfl h0 h1
        have hsa := fun w' => specL3Sum (lastH la) w' (HOa.out h0)
        have hsb := fun w' => specL3Sum (lastH lb) w' (HOb.out h1)
        have LA := HLa.out h0
        have LB := HLb.out h1
        have LA' : Hid (LastAt ga na (na - 1) (lastH la) w) := LA
        have LB' : Hid (LastAt gb nb (nb - 1) (lastH lb) w) := LB
        have hn0 : ((na : Int) == 0) = false := beq_eq_false_iff_ne.2 (by omega)
        have hn1 : ((nb : Int) == 0) = false := beq_eq_false_iff_ne.2 (by omega)
        generalize sumB (headX (lastH la)) = sa at hsa HV2
        generalize sumB (headX (lastH lb)) = sb at hsb HV2
        generalize lastH la = p at hsa LA LA' HOa
        generalize lastH lb = q at hsb LB LB' HOb
        unfold headVal at hsa hsb
        obtain ⟨_, _, _, _, _, _, va, ja⟩ := LA
        obtain ⟨_, _, _, _, _, _, vb, jb⟩ := LB
        generalize na - 1 = i at LA' va ja
        generalize nb - 1 = j at LB' vb jb
        clear HBW HBL HLa HLb HOa HOb h0 h1
        have i0 : (0 : Int) ≤ (i : Int) := by omega
        have j0 : (0 : Int) ≤ (j : Int) := by omega
        have B2 : Hid (Below w.heap.size w w) := Below.refl _ _
        have HS : Hid (∀ w', Below w.heap.size w w' → (fun w' => (w'.cell? ⟨ga, i * 5, none⟩ = some (.string p.prev) ∧ w'.cell? ⟨ga, i * 5 + 1, none⟩ = some (.string p.root) ∧ w'.cell? ⟨ga, i * 5 + 2, none⟩ = some (.int .i64 p.time) ∧ w'.cell? ⟨ga, i * 5 + 3, none⟩ = some (.int .i64 p.diff) ∧ w'.cell? ⟨ga, i * 5 + 4, none⟩ = some (.int .i64 p.nonce)) ∧ (w'.cell? ⟨gb, j * 5, none⟩ = some (.string q.prev) ∧ w'.cell? ⟨gb, j * 5 + 1, none⟩ = some (.string q.root) ∧ w'.cell? ⟨gb, j * 5 + 2, none⟩ = some (.int .i64 q.time) ∧ w'.cell? ⟨gb, j * 5 + 3, none⟩ = some (.int .i64 q.diff) ∧ w'.cell? ⟨gb, j * 5 + 4, none⟩ = some (.int .i64 q.nonce))) w') := fun w' hb => ⟨⟨(LA'.out.below hb).c0, (LA'.out.below hb).c1, (LA'.out.below hb).c2, (LA'.out.below hb).c3, (LA'.out.below hb).c4⟩, ⟨(LB'.out.below hb).c0, (LB'.out.below hb).c1, (LB'.out.below hb).c2, (LB'.out.below hb).c3, (LB'.out.below hb).c4⟩⟩
        go_enter Tryz.func34, Tryz.ntmps34
        go_wp2_with fail
        refine hwa.mono ?_
        rintro e w1 ⟨rfl, hq1⟩
        have hq1' := hq1.symm
        subst hq1'
        go_wp2_with fail
        refine hwb.mono ?_
        rintro e w2 ⟨rfl, hq2⟩
        have hq2' := hq2.symm
        subst hq2'
        clear hwa hwb
        go_wp2_with fail
        go_region_held3 (fun w' => (w'.cell? ⟨ga, i * 5, none⟩ = some (.string p.prev) ∧ w'.cell? ⟨ga, i * 5 + 1, none⟩ = some (.string p.root) ∧ w'.cell? ⟨ga, i * 5 + 2, none⟩ = some (.int .i64 p.time) ∧ w'.cell? ⟨ga, i * 5 + 3, none⟩ = some (.int .i64 p.diff) ∧ w'.cell? ⟨ga, i * 5 + 4, none⟩ = some (.int .i64 p.nonce)) ∧ (w'.cell? ⟨gb, j * 5, none⟩ = some (.string q.prev) ∧ w'.cell? ⟨gb, j * 5 + 1, none⟩ = some (.string q.root) ∧ w'.cell? ⟨gb, j * 5 + 2, none⟩ = some (.int .i64 q.time) ∧ w'.cell? ⟨gb, j * 5 + 3, none⟩ = some (.int .i64 q.diff) ∧ w'.cell? ⟨gb, j * 5 + 4, none⟩ = some (.int .i64 q.nonce)))
          (first | (with_reducible first | exact HS.out _ B4.out | exact HS.out _ B3.out | exact HS.out _ B2.out.drew | exact HS.out _ B2.out) | go_keep)
          (first
            | (go_at_call_of 48 (Value.agg #[.string p.prev, .string p.root, .int .i64 p.time, .int .i64 p.diff, .int .i64 p.nonce]); refine (hsa _).mono ?_; rintro e w3 ⟨rfl, b3⟩; have B3 : Hid (Below w.heap.size w w3) := B2.out.drew.trans (b3.mono B2.out.size))
            | (go_at_call_of 48 (Value.agg #[.string q.prev, .string q.root, .int .i64 q.time, .int .i64 q.diff, .int .i64 q.nonce]); refine (hsb _).mono ?_; rintro e w4 ⟨rfl, b4⟩; have B4 : Hid (Below w.heap.size w w4) := B3.out.trans (b4.mono B3.out.size)))
        go_wp2_with fail
        go_ret
        exact ⟨by rw [HV2.out]; rfl, B4.out⟩
  · have HV2 : Hid (R = decide (y < x)) := HBW.out (by omega)
    clear HBW HBL HLa HLb HOa HOb
    go_enter Tryz.func34, Tryz.ntmps34
    go_wp2_with fail
    refine hwa.mono ?_
    rintro e w1 ⟨rfl, hq1⟩
    have hq1' := hq1.symm
    subst hq1'
    go_wp2_with fail
    refine hwb.mono ?_
    rintro e w2 ⟨rfl, hq2⟩
    have hq2' := hq2.symm
    subst hq2'
    go_wp2_with fail
    go_ret
    exact ⟨by rw [HV2.out]; rfl, Below.refl _ _⟩

set_option maxHeartbeats 1000000 in
set_option maxRecDepth 100000 in
theorem specChainBetter (ga na ca gb nb cb : Nat) (la lb : List HeadV) (w : World) (hA : ChainSp ga na ca la w) (hB : ChainSp gb nb cb lb w) :
    Calls Tryz.prog 18 #[.slice (some ⟨ga, 0, none⟩) na ca, .slice (some ⟨gb, 0, none⟩) nb cb] w fun e w' => e = .returned (.bool (chainBetterB la lb)) ∧ Below w.heap.size w w' := by
  have hca := specL4Check ga na ca la w hA
  have hcb := fun w' (hb : Below w.heap.size w w') => specL4Check gb nb cb lb w' (hB.below hb)
  by_cases ha : chainCk la = 0
  · by_cases hb : chainCk lb = 0
    · have HV : Hid (chainBetterB la lb = betterB la lb) := cb_yes ha hb
      have hbt := fun w' (hb' : Below w.heap.size w w') => specL4Better ga na ca gb nb cb la lb w' ((hA.below hb').whole ha) ((hB.below hb').whole hb)
      generalize chainBetterB la lb = R at HV ⊢
      generalize betterB la lb = R2 at HV hbt
      rw [ha] at hca
      rw [hb] at hcb
      clear hA hB ha hb
      go_enter Tryz.func18, Tryz.ntmps18
      go_wp2_with fail
      refine hca.mono ?_
      rintro e w1 ⟨rfl, b1⟩
      go_wp2_with fail
      refine (hcb _ b1).mono ?_
      rintro e w2 ⟨rfl, b2⟩
      have B2 := b1.trans (b2.mono b1.size)
      go_wp2_with fail
      refine (hbt _ B2).mono ?_
      rintro e w3 ⟨rfl, b3⟩
      go_wp2_with fail
      go_ret
      exact ⟨by rw [HV.out]; rfl, B2.trans (b3.mono B2.size)⟩
    · have HV : Hid (chainBetterB la lb = false) := cb_no2 hb
      have hb' : ((chainCk lb : Int) == 0) = false := beq_eq_false_iff_ne.2 (by omega)
      rw [ha] at hca
      generalize chainCk lb = y at hcb hb'
      clear hA hB ha hb
      go_enter Tryz.func18, Tryz.ntmps18
      go_wp2_with fail
      refine hca.mono ?_
      rintro e w1 ⟨rfl, b1⟩
      go_wp2_with fail
      refine (hcb _ b1).mono ?_
      rintro e w2 ⟨rfl, b2⟩
      go_wp2_with fail
      go_ret
      exact ⟨by rw [HV.out]; rfl, b1.trans (b2.mono b1.size)⟩
  · have HV : Hid (chainBetterB la lb = false) := cb_no1 ha
    have ha' : ((chainCk la : Int) == 0) = false := beq_eq_false_iff_ne.2 (by omega)
    generalize chainCk la = y at hca ha'
    clear hA hB ha hcb
    go_enter Tryz.func18, Tryz.ntmps18
    go_wp2_with fail
    refine hca.mono ?_
    rintro e w1 ⟨rfl, b1⟩
    go_wp2_with fail
    go_ret
    exact ⟨by rw [HV.out]; rfl, b1⟩

end Go.Proofs.YtkdeaekheeflaaaGreatDoor

set_option linter.unusedVariables false
namespace Go.Proofs.YtkdeaekheeflaaaGreatDoor
open Go.RowKit

def sameHB (p q : HeadV) : Bool := p.prev.toList == q.prev.toList && (p.root.toList == q.root.toList && (p.time == q.time && (p.diff == q.diff && p.nonce == q.nonce)))
theorem fieldsHead : (Tryz.prog.fieldsOf 34).toList.map (fun f => (f.name != "_", f.type, f.offset)) = [(true, 9, 0), (true, 9, 1), (true, 3, 2), (true, 3, 3), (true, 3, 4)] := by kernel_rfl
theorem eqHeadT : Tryz.prog.underlying 34 = some (.struct (Tryz.prog.fieldsOf 34)) := by kernel_rfl
theorem eqHeadS : Tryz.prog.stoodInHeld 34 = false := by kernel_rfl
theorem eqHeadG : Tryz.prog.eqGuardType Tryz.prog.depth 34 = false := by kernel_rfl
theorem eqStep {P : Program} {d : Nat} {xs ys : Array Value} {f : Field} {fs : List Field} {w : World} {t o : Nat} {a b : Value} {r r2 : Bool} (hn : (f.name != "_") = true) (ht : f.type = t) (ho : f.offset = o) (ha : (part t xs o).run P w = .ok a w) (hb : (part t ys o).run P w = .ok b w)
    (hr : (Op.equalIn d t a b).run P w = .ok r w) (h2 : (Op.eqFields d xs ys fs).run P w = .ok r2 w) : (Op.eqFields d xs ys (f :: fs)).run P w = .ok (r && r2) w := by
  have hn' : f.name ≠ "_" := by simpa using hn
  subst ht ho
  unfold Op.eqFields
  rw [if_pos hn']
  simp only [Sem.run_bind, ha, hb, hr, Result.andThen_ok, Sem.run_ite, Sem.run_pure, h2]
  cases r <;> simp
theorem runSameHead (p q : HeadV) (w : World) : (Op.equalIn 10000 34 (.agg #[.string p.prev, .string p.root, .int .i64 p.time, .int .i64 p.diff, .int .i64 p.nonce]) (.agg #[.string q.prev, .string q.root, .int .i64 q.time, .int .i64 q.diff, .int .i64 q.nonce])).run Tryz.prog w = .ok (sameHB p q) w := by
  rw [run_equalIn_struct w 9999 _ _ _ eqHeadT eqHeadS]
  have hf := fieldsHead
  generalize (Tryz.prog.fieldsOf 34).toList = fs at hf
  rcases fs with _ | ⟨f0, _ | ⟨f1, _ | ⟨f2, _ | ⟨f3, _ | ⟨f4, _ | ⟨f5, fs⟩⟩⟩⟩⟩⟩
  all_goals try (simp at hf; done)
  simp only [List.map_cons, List.map_nil, List.cons.injEq, Prod.mk.injEq, and_true] at hf
  obtain ⟨⟨n0, t0, o0⟩, ⟨n1, t1, o1⟩, ⟨n2, t2, o2⟩, ⟨n3, t3, o3⟩, n4, t4, o4⟩ := hf
  refine eqStep n0 t0 o0 (by kernel_rfl) (by kernel_rfl) (run_equalIn_string w 9998 _ _ _ Tryz.underlying9) ?_
  refine eqStep n1 t1 o1 (by kernel_rfl) (by kernel_rfl) (run_equalIn_string w 9998 _ _ _ Tryz.underlying9) ?_
  refine eqStep n2 t2 o2 (by kernel_rfl) (by kernel_rfl) (run_equalIn_int w 9998 _ .i64 _ _ _ Tryz.underlying3) ?_
  refine eqStep n3 t3 o3 (by kernel_rfl) (by kernel_rfl) (run_equalIn_int w 9998 _ .i64 _ _ _ Tryz.underlying3) ?_
  have h4 := eqStep (d := 9999) (xs := #[.string p.prev, .string p.root, .int .i64 p.time, .int .i64 p.diff, .int .i64 p.nonce]) (ys := #[.string q.prev, .string q.root, .int .i64 q.time, .int .i64 q.diff, .int .i64 q.nonce]) (fs := []) (w := w) (P := Tryz.prog) (r2 := true) n4 t4 o4 (by kernel_rfl) (by kernel_rfl) (run_equalIn_int w 9998 _ .i64 _ p.nonce q.nonce Tryz.underlying3) (by simp [Op.eqFields])
  rw [Bool.and_true] at h4
  exact h4
theorem runHeadEq (p q : HeadV) (w : World) : (binOp .eql 34 (.agg #[.string p.prev, .string p.root, .int .i64 p.time, .int .i64 p.diff, .int .i64 p.nonce]) (.agg #[.string q.prev, .string q.root, .int .i64 q.time, .int .i64 q.diff, .int .i64 q.nonce])).run Tryz.prog w = .ok (.bool (sameHB p q)) w := by
  rw [run_eql_struct, runSameHead]
  rfl
theorem runHeadNe (p q : HeadV) (w : World) : (binOp .neq 34 (.agg #[.string p.prev, .string p.root, .int .i64 p.time, .int .i64 p.diff, .int .i64 p.nonce]) (.agg #[.string q.prev, .string q.root, .int .i64 q.time, .int .i64 q.diff, .int .i64 q.nonce])).run Tryz.prog w = .ok (.bool (!sameHB p q)) w := by
  rw [run_neq_struct, runSameHead]
  rfl
theorem sameHB_iff (p q : HeadV) : sameHB p q = true ↔ p = q := by
  have hs : ∀ a b : ByteArray, a.toList = b.toList → a = b := fun a b h => by
    rw [ByteArray.toList_eq, ByteArray.toList_eq] at h
    exact ByteArray.ext (by simpa using h)
  constructor
  · intro h
    simp only [sameHB, Bool.and_eq_true, beq_iff_eq] at h
    obtain ⟨h0, h1, h2, h3, h4⟩ := h
    cases p
    cases q
    simp_all
    exact ⟨hs _ _ h0, hs _ _ h1⟩
  · rintro rfl
    simp [sameHB]

end Go.Proofs.YtkdeaekheeflaaaGreatDoor

set_option linter.unusedVariables false
namespace Go.Proofs.YtkdeaekheeflaaaGreatDoor
open Go.RowKit Go.Deep

def forkN (a b : List HeadV) : Nat := match (List.range (min a.length b.length)).find? fun i => !(sameHB (a.getD i default) (b.getD i default)) with
  | some i => i
  | none => min a.length b.length
def forkV (a b : List HeadV) : Int := if chainCk a = 0 ∧ chainCk b = 0 then (forkN a b : Int) else -1
theorem fork_at {a b : List HeadV} {k : Nat} (h1 : k < a.length) (h2 : k < b.length) (hf : sameHB (a.getD k default) (b.getD k default) = false) (hj : ∀ j, j < k → sameHB (a.getD j default) (b.getD j default) = true) : forkN a b = k := by
  unfold forkN
  rw [firstC (min a.length b.length) k (by omega) (by rw [hf]; rfl) (fun j h => by rw [hj j h]; rfl)]
theorem fork_end {a b : List HeadV} {k : Nat} (h : k = a.length ∧ k ≤ b.length ∨ k = b.length ∧ k ≤ a.length) (hj : ∀ j, j < k → sameHB (a.getD j default) (b.getD j default) = true) : forkN a b = k := by
  have e : min a.length b.length = k := by omega
  unfold forkN
  rw [e, noneC (fun j h => by rw [hj j h]; rfl)]

set_option maxHeartbeats 1000000 in
set_option maxRecDepth 100000 in
theorem specL4Fork (ga na ca gb nb cb : Nat) (la lb : List HeadV) (w : World) (hA : AtHead w ga la) (hB : AtHead w gb lb) (hna : na = la.length) (hnb : nb = lb.length) (hm : na ≤ 1048576) (hm2 : nb ≤ 1048576) :
    Calls Tryz.prog 35 #[.slice (some ⟨ga, 0, none⟩) na ca, .slice (some ⟨gb, 0, none⟩) nb cb] w fun e w' => e = .returned (.int .i64 (forkN la lb : Int)) ∧ Below w.heap.size w w' := by
  have HA : Hid (AtHead w ga la) := hA
  have HB : Hid (AtHead w gb lb) := hB
  have HNa : Hid (na = la.length) := hna
  have HNb : Hid (nb = lb.length) := hnb
  have HAT : Hid (∀ k, k < la.length → k < lb.length → sameHB (la.getD k default) (lb.getD k default) = false → (∀ j, j < k → sameHB (la.getD j default) (lb.getD j default) = true) → forkN la lb = k) := fun k h1 h2 hf hj => fork_at h1 h2 hf hj
  have HEN : Hid (∀ k, (k = la.length ∧ k ≤ lb.length ∨ k = lb.length ∧ k ≤ la.length) → (∀ j, j < k → sameHB (la.getD j default) (lb.getD j default) = true) → forkN la lb = k) := fun k h hj => fork_end h hj
  generalize forkN la lb = R at HAT HEN ⊢
  clear hA hB hna hnb
  go_enter Tryz.func35, Tryz.ntmps35
  go_wp2_with fail
  go_loopw [5] (fun i wr => ∃ k : Nat, k ≤ na ∧ k ≤ nb ∧ i = .int .i64 (k : Int) ∧ Hid (Below w.heap.size w wr) ∧ Hid (∀ j, j < k → sameHB (la.getD j default) (lb.getD j default) = true)) (fun i _ => na - (intOf i).toNat)
  case atStart => exact ⟨0, by omega, by omega, rfl, Below.refl _ _, fun j hj => by omega⟩
  case round =>
    obtain ⟨k, hk1, hk2, rfl, HL, HQ⟩ := hrel
    have k0 : (0 : Int) ≤ (k : Int) := by omega
    have wk : IntKind.i64.wrap ((k : Int) + 1) = (k : Int) + 1 := by rw [IntKind.wrap_i64]; omega
    by_cases h1 : k < na
    · by_cases h2 : k < nb
      · have ha : k < la.length := by rw [← HNa.out]; exact h1
        have hb : k < lb.length := by rw [← HNb.out]; exact h2
        have HA' : AtHead wr.drew ga la := HA.out.below HL.out.drew HA.out.1
        have HB' : AtHead wr.drew gb lb := HB.out.below HL.out.drew HB.out.1
        have c0 := HA'.c0 k ha
        have c1 := HA'.c1 k ha
        have c2 := HA'.c2 k ha
        have c3 := HA'.c3 k ha
        have c4 := HA'.c4 k ha
        have d0 := HB'.c0 k hb
        have d1 := HB'.c1 k hb
        have d2 := HB'.c2 k hb
        have d3 := HB'.c3 k hb
        have d4 := HB'.c4 k hb
        have q1 : (k : Int) < (na : Int) := by omega
        have q2 : (k : Int) < (nb : Int) := by omega
        have q1' : decide ((k : Int) < (na : Int)) = true := decide_eq_true q1
        have q2' : decide ((k : Int) < (nb : Int)) = true := decide_eq_true q2
        have HNO : Hid (sameHB (la.getD k default) (lb.getD k default) = false → R = k) := fun hf => HAT.out k ha hb hf HQ.out
        have HNX : Hid (sameHB (la.getD k default) (lb.getD k default) = true → ∀ j, j < k + 1 → sameHB (la.getD j default) (lb.getD j default) = true) := by
          intro h j hj
          rcases Nat.lt_or_ge j k with h' | h'
          · exact HQ.out j h'
          · obtain rfl : j = k := by omega
            exact h
        have HK1 : Hid (k + 1 ≤ na ∧ k + 1 ≤ nb) := ⟨h1, h2⟩
        generalize la.getD k default = p at c0 c1 c2 c3 c4 HNO HNX
        generalize lb.getD k default = q at d0 d1 d2 d3 d4 HNO HNX
        have hse := runSameHead p q
        have hgd := eqHeadG
        generalize sameHB p q = sm at hse HNO HNX
        clear HA' HB' ha hb HAT HEN
        cases sm with
        | true =>
          have HQ2 : Hid (∀ j, j < k + 1 → sameHB (la.getD j default) (lb.getD j default) = true) := HNX.out rfl
          clear HNX HNO
          go_wp2_with fail
          go_big_region
          go_wp2_with fail
          go_roundw
          case rel => exact ⟨k + 1, HK1.out.1, HK1.out.2, by go_num, HL.out.drew, HQ2⟩
          case measure => have := HK1.out; simp [intOf]; omega
        | false =>
          have HV2 : Hid (R = k) := HNO.out rfl
          clear HNX HNO
          go_wp2_with fail
          go_big_region
          go_wp2_with fail
          go_ret
          exact ⟨by rw [HV2.out]; rfl, HL.out.drew⟩
      · have q1' : decide ((k : Int) < (na : Int)) = true := decide_eq_true (by omega)
        have q2' : decide ((k : Int) < (nb : Int)) = false := decide_eq_false (by omega)
        have HV2 : Hid (R = k) := HEN.out k (.inr ⟨by rw [← HNb.out]; omega, by rw [← HNa.out]; omega⟩) HQ.out
        clear HAT HEN
        go_wp2_with fail
        go_big_region
        go_wp2_with fail
        go_ret
        exact ⟨by rw [HV2.out]; rfl, HL.out.drew⟩
    · have q1' : decide ((k : Int) < (na : Int)) = false := decide_eq_false (by omega)
      have HV2 : Hid (R = k) := HEN.out k (.inl ⟨by rw [← HNa.out]; omega, by rw [← HNb.out]; omega⟩) HQ.out
      clear HAT HEN
      go_wp2_with fail
      go_big_region
      go_wp2_with fail
      go_ret
      exact ⟨by rw [HV2.out]; rfl, HL.out.drew⟩

set_option maxHeartbeats 1000000 in
set_option maxRecDepth 100000 in
theorem specChainFork (ga na ca gb nb cb : Nat) (la lb : List HeadV) (w : World) (hA : ChainSp ga na ca la w) (hB : ChainSp gb nb cb lb w) :
    Calls Tryz.prog 20 #[.slice (some ⟨ga, 0, none⟩) na ca, .slice (some ⟨gb, 0, none⟩) nb cb] w fun e w' => e = .returned (.int .i64 (forkV la lb)) ∧ Below w.heap.size w w' := by
  have hca := specL4Check ga na ca la w hA
  have hcb := fun w' (hb' : Below w.heap.size w w') => specL4Check gb nb cb lb w' (hB.below hb')
  by_cases ha : chainCk la = 0
  · by_cases hb : chainCk lb = 0
    · have HV : Hid (forkV la lb = (forkN la lb : Int)) := by show _ = _; rw [forkV, if_pos ⟨ha, hb⟩]
      rw [ha] at hca
      rw [hb] at hcb
      have hfk := fun w' (hb' : Below w.heap.size w w') => specL4Fork ga na ca gb nb cb la lb w' (hA.below hb').at_ (hB.below hb').at_ hA.len hB.len hA.max hB.max
      generalize forkN la lb = R at HV hfk
      clear hA hB ha hb
      go_enter Tryz.func20, Tryz.ntmps20
      go_wp2_with fail
      refine hca.mono ?_
      rintro e w1 ⟨rfl, b1⟩
      go_wp2_with fail
      refine (hcb _ b1).mono ?_
      rintro e w2 ⟨rfl, b2⟩
      have B2 := b1.trans (b2.mono b1.size)
      go_wp2_with fail
      refine (hfk _ B2).mono ?_
      rintro e w3 ⟨rfl, b3⟩
      go_wp2_with fail
      go_ret
      exact ⟨by rw [HV.out]; rfl, B2.trans (b3.mono B2.size)⟩
    · have HV : Hid (forkV la lb = -1) := by show _ = _; rw [forkV, if_neg (fun h => hb h.2)]
      have hb' : ((chainCk lb : Int) == 0) = false := beq_eq_false_iff_ne.2 (by omega)
      have hb2 : ((chainCk lb : Int) != 0) = true := by rw [bne, hb']; rfl
      rw [ha] at hca
      generalize chainCk lb = y at hcb hb' hb2
      clear hA hB ha hb
      go_enter Tryz.func20, Tryz.ntmps20
      go_wp2_with fail
      refine hca.mono ?_
      rintro e w1 ⟨rfl, b1⟩
      go_wp2_with fail
      refine (hcb _ b1).mono ?_
      rintro e w2 ⟨rfl, b2⟩
      go_wp2_with fail
      go_ret
      exact ⟨by rw [HV.out]; rfl, b1.trans (b2.mono b1.size)⟩
  · have HV : Hid (forkV la lb = -1) := by show _ = _; rw [forkV, if_neg (fun h => ha h.1)]
    have ha' : ((chainCk la : Int) == 0) = false := beq_eq_false_iff_ne.2 (by omega)
    have ha2 : ((chainCk la : Int) != 0) = true := by rw [bne, ha']; rfl
    generalize chainCk la = y at hca ha' ha2
    clear hA hB ha hcb
    go_enter Tryz.func20, Tryz.ntmps20
    go_wp2_with fail
    refine hca.mono ?_
    rintro e w1 ⟨rfl, b1⟩
    go_wp2_with fail
    go_ret
    exact ⟨by rw [HV.out]; rfl, b1⟩

set_option maxHeartbeats 1000000 in
set_option maxRecDepth 100000 in
theorem implChainFork (ga na ca gb nb cb : Nat) (la lb : List HeadV) (w : World) (hA : Chain ga na ca la w) (hB : Chain gb nb cb lb w) (hE : ErrT w) :
    Calls Tryz.prog 21 #[.slice (some ⟨ga, 0, none⟩) na ca, .slice (some ⟨gb, 0, none⟩) nb cb] w fun e w' => e = .returned (.int .i64 (forkV la lb)) ∧ Below w.heap.size w w' := by
  have hca := implChainCheck ga na ca la w hA hE
  have hcb := fun w' (hb' : Below w.heap.size w w') => implChainCheck gb nb cb lb w' (hB.below hb') (hE.below hb' hE.lt)
  by_cases ha : chainCk la = 0
  · by_cases hb : chainCk lb = 0
    · have HV : Hid (forkV la lb = (forkN la lb : Int)) := by show _ = _; rw [forkV, if_pos ⟨ha, hb⟩]
      rw [ha] at hca
      rw [hb] at hcb
      have HA : Hid (AtHead w ga la) := hA.at_
      have HB : Hid (AtHead w gb lb) := hB.at_
      have HNa : Hid (na = la.length) := hA.len
      have HNb : Hid (nb = lb.length) := hB.len
      have hm := hA.max
      have hm2 := hB.max
      have HAT : Hid (∀ k, k < la.length → k < lb.length → sameHB (la.getD k default) (lb.getD k default) = false → (∀ j, j < k → sameHB (la.getD j default) (lb.getD j default) = true) → forkN la lb = k) := fun k h1 h2 hf hj => fork_at h1 h2 hf hj
      have HEN : Hid (∀ k, (k = la.length ∧ k ≤ lb.length ∨ k = lb.length ∧ k ≤ la.length) → (∀ j, j < k → sameHB (la.getD j default) (lb.getD j default) = true) → forkN la lb = k) := fun k h hj => fork_end h hj
      rw [HV.out]
      generalize forkN la lb = R at HAT HEN ⊢
      clear hA hB ha hb hE HV
      go_enter Tryz.func21, Tryz.ntmps21
      go_wp2_with fail
      refine hca.mono ?_
      rintro e w1 ⟨rfl, b1⟩
      go_wp2_with fail
      refine (hcb _ b1).mono ?_
      rintro e w2 ⟨rfl, b2⟩
      have B2 : Hid (Below w.heap.size w w2) := b1.trans (b2.mono b1.size)
      clear b1 b2 hca hcb
      go_wp2_with fail
      go_loopw [5] (fun i wr => ∃ k : Nat, k ≤ na ∧ k ≤ nb ∧ i = .int .i64 (k : Int) ∧ Hid (Below w.heap.size w wr) ∧ Hid (∀ j, j < k → sameHB (la.getD j default) (lb.getD j default) = true)) (fun i _ => na - (intOf i).toNat)
      case atStart => exact ⟨0, by omega, by omega, rfl, B2, fun j hj => by omega⟩
      case round =>
        obtain ⟨k, hk1, hk2, rfl, HL, HQ⟩ := hrel
        have k0 : (0 : Int) ≤ (k : Int) := by omega
        have wk : IntKind.i64.wrap ((k : Int) + 1) = (k : Int) + 1 := by rw [IntKind.wrap_i64]; omega
        by_cases h1 : k < na
        · by_cases h2 : k < nb
          · have ha : k < la.length := by rw [← HNa.out]; exact h1
            have hb : k < lb.length := by rw [← HNb.out]; exact h2
            have HA' : AtHead wr.drew ga la := HA.out.below HL.out.drew HA.out.1
            have HB' : AtHead wr.drew gb lb := HB.out.below HL.out.drew HB.out.1
            have c0 := HA'.c0 k ha
            have c1 := HA'.c1 k ha
            have c2 := HA'.c2 k ha
            have c3 := HA'.c3 k ha
            have c4 := HA'.c4 k ha
            have d0 := HB'.c0 k hb
            have d1 := HB'.c1 k hb
            have d2 := HB'.c2 k hb
            have d3 := HB'.c3 k hb
            have d4 := HB'.c4 k hb
            have q1 : (k : Int) < (na : Int) := by omega
            have q2 : (k : Int) < (nb : Int) := by omega
            have q1' : decide ((k : Int) < (na : Int)) = true := decide_eq_true q1
            have q2' : decide ((k : Int) < (nb : Int)) = true := decide_eq_true q2
            have HNO : Hid (sameHB (la.getD k default) (lb.getD k default) = false → R = k) := fun hf => HAT.out k ha hb hf HQ.out
            have HNX : Hid (sameHB (la.getD k default) (lb.getD k default) = true → ∀ j, j < k + 1 → sameHB (la.getD j default) (lb.getD j default) = true) := by
              intro h j hj
              rcases Nat.lt_or_ge j k with h' | h'
              · exact HQ.out j h'
              · obtain rfl : j = k := by omega
                exact h
            have HK1 : Hid (k + 1 ≤ na ∧ k + 1 ≤ nb) := ⟨h1, h2⟩
            generalize la.getD k default = p at c0 c1 c2 c3 c4 HNO HNX
            generalize lb.getD k default = q at d0 d1 d2 d3 d4 HNO HNX
            have hse := runSameHead p q
            have hgd := eqHeadG
            generalize sameHB p q = sm at hse HNO HNX
            clear HA' HB' ha hb HAT HEN
            cases sm with
            | true =>
              have HQ2 : Hid (∀ j, j < k + 1 → sameHB (la.getD j default) (lb.getD j default) = true) := HNX.out rfl
              clear HNX HNO
              go_wp2_with fail
              go_big_region
              go_wp2_with fail
              go_roundw
              case rel => exact ⟨k + 1, HK1.out.1, HK1.out.2, by go_num, HL.out.drew, HQ2⟩
              case measure => have := HK1.out; simp [intOf]; omega
            | false =>
              have HV2 : Hid (R = k) := HNO.out rfl
              clear HNX HNO
              go_wp2_with fail
              go_big_region
              go_wp2_with fail
              go_ret
              exact ⟨by rw [HV2.out]; rfl, HL.out.drew⟩
          · have q1' : decide ((k : Int) < (na : Int)) = true := decide_eq_true (by omega)
            have q2' : decide ((k : Int) < (nb : Int)) = false := decide_eq_false (by omega)
            have HV2 : Hid (R = k) := HEN.out k (.inr ⟨by rw [← HNb.out]; omega, by rw [← HNa.out]; omega⟩) HQ.out
            clear HAT HEN
            go_wp2_with fail
            go_big_region
            go_wp2_with fail
            go_ret
            exact ⟨by rw [HV2.out]; rfl, HL.out.drew⟩
        · have q1' : decide ((k : Int) < (na : Int)) = false := decide_eq_false (by omega)
          have HV2 : Hid (R = k) := HEN.out k (.inl ⟨by rw [← HNa.out]; omega, by rw [← HNb.out]; omega⟩) HQ.out
          clear HAT HEN
          go_wp2_with fail
          go_big_region
          go_wp2_with fail
          go_ret
          exact ⟨by rw [HV2.out]; rfl, HL.out.drew⟩
    · have HV : Hid (forkV la lb = -1) := by show _ = _; rw [forkV, if_neg (fun h => hb h.2)]
      have hb' : ((chainCk lb : Int) == 0) = false := beq_eq_false_iff_ne.2 (by omega)
      have hb2 : ((chainCk lb : Int) != 0) = true := by rw [bne, hb']; rfl
      rw [ha] at hca
      generalize chainCk lb = y at hcb hb' hb2
      clear hA hB ha hb hE
      go_enter Tryz.func21, Tryz.ntmps21
      go_wp2_with fail
      refine hca.mono ?_
      rintro e w1 ⟨rfl, b1⟩
      go_wp2_with fail
      refine (hcb _ b1).mono ?_
      rintro e w2 ⟨rfl, b2⟩
      go_wp2_with fail
      go_ret
      exact ⟨by rw [HV.out]; rfl, b1.trans (b2.mono b1.size)⟩
  · have HV : Hid (forkV la lb = -1) := by show _ = _; rw [forkV, if_neg (fun h => ha h.1)]
    have ha' : ((chainCk la : Int) == 0) = false := beq_eq_false_iff_ne.2 (by omega)
    have ha2 : ((chainCk la : Int) != 0) = true := by rw [bne, ha']; rfl
    generalize chainCk la = y at hca ha' ha2
    clear hA hB ha hcb hE
    go_enter Tryz.func21, Tryz.ntmps21
    go_wp2_with fail
    refine hca.mono ?_
    rintro e w1 ⟨rfl, b1⟩
    go_wp2_with fail
    go_ret
    exact ⟨by rw [HV.out]; rfl, b1⟩

end Go.Proofs.YtkdeaekheeflaaaGreatDoor

set_option linter.unusedVariables false
namespace Go.Proofs.YtkdeaekheeflaaaGreatDoor
open Go.RowKit Go.Deep

set_option maxHeartbeats 1000000 in
set_option maxRecDepth 100000 in
theorem szHeadsR (r0 : Nat) (hr0 : r0 ≤ 1048576) (a : Option Addr) (len cap : Nat) (ps : List HeadV) (w w0 : World) (h : IsHeads w0 a len cap ps) (hw0 : Below w0.heap.size w0 w) :
    Calls Tryz.prog 9 #[.slice a len cap, .int .i64 (r0 : Int)] w fun e w' => Below w.heap.size w w' ∧ (e = .returned (.int .i64 (-1)) ∨ ∃ r : Nat, e = .returned (.int .i64 (r : Int)) ∧ r ≤ 1048576 ∧ len ≤ 1048576 ∧ ∀ i, i < len → smallHead (ps.getD i default)) := by
  have HP : Hid (IsHeads w0 a len cap ps) := h
  have HW0 : Hid (Below w0.heap.size w0 w) := hw0
  have hlm : len ≤ maxLen := h.max
  unfold maxLen at hlm
  have hw : IntKind.i64.wrap ((r0 : Int) - (len : Int)) = (r0 : Int) - (len : Int) := by rw [IntKind.wrap_i64]; omega
  clear h hw0
  by_cases hl : r0 < len
  · have hl' : (r0 : Int) - (len : Int) < 0 := by omega
    go_enter Tryz.func9, Tryz.ntmps9
    go_wp2_with fail
    go_ret
    exact ⟨Below.refl _ _, .inl rfl⟩
  · have hl' : ¬ (r0 : Int) - (len : Int) < 0 := by omega
    go_enter Tryz.func9, Tryz.ntmps9
    go_wp2_with fail
    clear hw hl'
    go_loopw [1, 5] (fun l i wr => ∃ (r k : Nat), k ≤ len ∧ r ≤ 1048576 ∧ i = .int .i64 (k : Int) ∧ l = .int .i64 (r : Int) ∧ Hid (Below w.heap.size w wr) ∧ Hid (∀ i, i < k → smallHead (ps.getD i default))) (fun _ i _ => len - (intOf i).toNat)
    case atStart => exact ⟨r0 - len, 0, by omega, by omega, rfl, by go_num, Below.refl _ _, fun i hi => by omega⟩
    case round =>
      obtain ⟨r, k, hk, hr, rfl, rfl, HB, HS⟩ := hrel
      by_cases hlt : k < len
      · obtain ⟨x, rfl, hp, hsz⟩ := HP.out.at enHead_len (HW0.out.trans (HB.out.mono HW0.out.size)) k hlt
        obtain ⟨c0, c1, c2, c3, c4⟩ := cellsHead hp
        have lk : (k : Int) < (len : Int) := by omega
        have HK : Hid (k + 1 ≤ len) := hlt
        have HN : Hid (smallHead (ps.getD k default) → ∀ i, i < k + 1 → smallHead (ps.getD i default)) := by
          intro h1 i hi
          rcases Nat.lt_or_ge i k with h' | h'
          · exact HS.out i h'
          · obtain rfl : i = k := by omega
            exact h1
        clear hp
        generalize ps.getD k default = p at c0 c1 c2 c3 c4 hsz HN
        go_wp2_with fail
        refine (szHead1 p r _ hr hsz).mono ?_
        rintro e w1 ⟨b1, rfl | ⟨q, rfl, hq, hps⟩⟩
        · go_wp2_with fail
          go_ret
          exact ⟨HB.out.trans (b1.mono HB.out.size), .inl rfl⟩
        · have HQ2 : Hid (∀ i, i < k + 1 → smallHead (ps.getD i default)) := HN.out hps
          clear HN hps
          have hq0 : ¬ (q : Int) < 0 := by omega
          go_wp2_with fail
          go_roundw
          case rel => exact ⟨q, k + 1, HK.out, by omega, by go_num, rfl, HB.out.trans (b1.mono HB.out.size), HQ2⟩
          case measure => have := HK.out; simp [intOf]; omega
      · go_wp2_with fail
        go_ret
        exact ⟨HB.out, .inr ⟨r, rfl, by omega, by omega, fun i hi => HS.out i (by omega)⟩⟩

set_option maxHeartbeats 1000000 in
set_option maxRecDepth 100000 in
theorem walk_FnExactChainFork (a : Option Addr) (la ca : Nat) (ps : List HeadV) (b : Option Addr) (lb cb : Nat) (qs : List HeadV) (w : World) (h : IsHeads w a la ca ps) (h2 : IsHeads w b lb cb qs) (hK : RowG w shaK) (hP : TabP w) (hE : ErrT w) :
    Calls Tryz.prog 7 #[.slice a la ca, .slice b lb cb] w fun e w' => e = .returned (.bool true) ∧ Below w.heap.size w w' := by
  have H0 : Hid (IsHeads w a la ca ps) := h
  have H2 : Hid (IsHeads w b lb cb qs) := h2
  have HLa : Hid (la = ps.length) := h.len.symm
  have HLb : Hid (lb = qs.length) := h2.len.symm
  have HK : Hid (RowG w shaK) := hK
  have HP : Hid (TabP w) := hP
  have HE : Hid (ErrT w) := hE
  clear h h2 hK hP hE
  go_enter Tryz.func7, Tryz.ntmps7
  go_wp2_with fail
  refine (szHeads a la ca ps w H0.out).mono ?_
  rintro e w0 ⟨b0, rfl | ⟨r, rfl, hr1, hl3, hsm⟩⟩
  · go_wp2_with fail
    go_ret
    exact ⟨rfl, b0⟩
  have HZa : Hid (∀ i, i < ps.length → wfHead (ps.getD i default)) := by
    intro i hi
    have := hsm i (by rw [HLa.out]; exact hi)
    unfold smallHead at this
    unfold wfHead maxLen
    omega
  clear hsm
  have hl4 : la ≤ 1073741824 := by omega
  have hr0 : ¬ (r : Int) < 0 := by omega
  have HB0 : Hid (Below w.heap.size w w0) := b0
  clear b0
  go_wp2_with fail
  refine (szHeadsR r hr1 b lb cb qs w0 w H2.out HB0.out).mono ?_
  rintro e w0' ⟨b0, rfl | ⟨r', rfl, hr1', hm3, hsm⟩⟩
  · go_wp2_with fail
    go_ret
    exact ⟨rfl, HB0.out.trans (b0.mono HB0.out.size)⟩
  have HZb : Hid (∀ i, i < qs.length → wfHead (qs.getD i default)) := by
    intro i hi
    have := hsm i (by rw [HLb.out]; exact hi)
    unfold smallHead at this
    unfold wfHead maxLen
    omega
  clear hsm
  have hm4 : lb ≤ 1073741824 := by omega
  have hr0' : ¬ (r' : Int) < 0 := by omega
  have HB00 : Hid (Below w.heap.size w w0') := HB0.out.trans (b0.mono HB0.out.size)
  clear b0 HB0
  go_wp2_with fail
  refine (toHeads a la ca ps _ w H0.out HB00.out hl3).mono ?_
  rintro e w1 ⟨rfl, r1, b1⟩
  have HR1 : Hid (RowHead w1 w0'.heap.size ps) := r1
  have HB1 : Hid (Below w.heap.size w w1) := HB00.out.trans (b1.mono HB00.out.size)
  clear r1 b1
  go_wp2_with fail
  refine (toHeads b lb cb qs _ w H2.out HB1.out hm3).mono ?_
  rintro e w1' ⟨rfl, r1, b1⟩
  have HR1' : Hid (RowHead w1' w1.heap.size qs) := r1
  have HR1a : Hid (RowHead w1' w0'.heap.size ps) := HR1.out.below b1 HR1.out.lt
  have HB1' : Hid (Below w.heap.size w w1') := HB1.out.trans (b1.mono HB1.out.size)
  clear r1 b1 HR1
  go_wp2_with fail
  refine (specChainFork w0'.heap.size la la w1.heap.size lb lb ps qs _ ⟨HR1a.out.at 5 enHead_len, HLa.out, hl3, Nat.le_refl _, HZa.out⟩ ⟨HR1'.out.at 5 enHead_len, HLb.out, hm3, Nat.le_refl _, HZb.out⟩).mono ?_
  rintro e w2 ⟨rfl, b2⟩
  have HB2 : Hid (Below w.heap.size w w2) := HB1'.out.trans (b2.mono HB1'.out.size)
  clear b2 HB1 HB1' HR1a HR1' HB00
  go_wp2_with fail
  refine (toHeads a la ca ps _ w H0.out HB2.out hl3).mono ?_
  rintro e w3 ⟨rfl, r3, b3⟩
  have HR3 : Hid (RowHead w3 w2.heap.size ps) := r3
  have HB3 : Hid (Below w.heap.size w w3) := HB2.out.trans (b3.mono HB2.out.size)
  clear r3 b3
  go_wp2_with fail
  refine (toHeads b lb cb qs _ w H2.out HB3.out hm3).mono ?_
  rintro e w3' ⟨rfl, r3, b3⟩
  have HR3' : Hid (RowHead w3' w3.heap.size qs) := r3
  have HR3a : Hid (RowHead w3' w2.heap.size ps) := HR3.out.below b3 HR3.out.lt
  have HB3' : Hid (Below w.heap.size w w3') := HB3.out.trans (b3.mono HB3.out.size)
  clear r3 b3 HR3
  have HI := implChainFork w2.heap.size la la w3.heap.size lb lb ps qs w3' ⟨HR3a.out.at 5 enHead_len, HLa.out, hl3, Nat.le_refl _, HK.out.below HB3'.out HK.out.lt, TabP.below HP.out HB3'.out (Nat.le_refl _)⟩ ⟨HR3'.out.at 5 enHead_len, HLb.out, hm3, Nat.le_refl _, HK.out.below HB3'.out HK.out.lt, TabP.below HP.out HB3'.out (Nat.le_refl _)⟩ (HE.out.below HB3'.out HE.out.lt)
  generalize forkV ps qs = R at HI ⊢
  go_wp2_with fail
  refine HI.mono ?_
  rintro e w4 ⟨rfl, b4⟩
  have HR4 : Hid (RowHead w4 w2.heap.size ps) := HR3a.out.below b4 HR3a.out.lt
  have HR4' : Hid (RowHead w4 w3.heap.size qs) := HR3'.out.below b4 HR3'.out.lt
  have HB4 : Hid (Below w.heap.size w w4) := HB3'.out.trans (b4.mono HB3'.out.size)
  clear b4 HI HR3a HR3'
  skip
  go_wp2_with fail
  refine (toHeads a la ca ps _ w H0.out HB4.out hl3).mono ?_
  rintro e w5 ⟨rfl, r5, b5⟩
  have HR5 : Hid (RowHead w5 w4.heap.size ps) := r5
  have HR45 : Hid (RowHead w5 w2.heap.size ps) := HR4.out.below b5 HR4.out.lt
  have HR45' : Hid (RowHead w5 w3.heap.size qs) := HR4'.out.below b5 HR4'.out.lt
  have HB5 : Hid (Below w.heap.size w w5) := HB4.out.trans (b5.mono HB4.out.size)
  clear r5 b5
  go_wp2_with fail
  refine (eqHeads w2.heap.size w4.heap.size la la la ps _ (HR45.out.at 5 enHead_len) (HR5.out.at 5 enHead_len) HLa.out hl4).mono ?_
  rintro e w6 ⟨rfl, b6⟩
  have HR6' : Hid (RowHead w6 w3.heap.size qs) := HR45'.out.below b6 HR45'.out.lt
  have HB6 : Hid (Below w.heap.size w w6) := HB5.out.trans (b6.mono HB5.out.size)
  clear b6
  go_wp2_with fail
  refine (toHeads b lb cb qs _ w H2.out HB6.out hm3).mono ?_
  rintro e w7 ⟨rfl, r7, b7⟩
  have HR7 : Hid (RowHead w7 w6.heap.size qs) := r7
  have HR67 : Hid (RowHead w7 w3.heap.size qs) := HR6'.out.below b7 HR6'.out.lt
  have HB7 : Hid (Below w.heap.size w w7) := HB6.out.trans (b7.mono HB6.out.size)
  clear r7 b7
  go_wp2_with fail
  refine (eqHeads w3.heap.size w6.heap.size lb lb lb qs _ (HR67.out.at 5 enHead_len) (HR7.out.at 5 enHead_len) HLb.out hm4).mono ?_
  rintro e w8 ⟨rfl, b8⟩
  go_wp2_with fail
  go_ret
  exact ⟨rfl, HB7.out.trans (b8.mono HB7.out.size)⟩

set_option maxHeartbeats 1000000 in
set_option maxRecDepth 100000 in
theorem walk_FnExactChainBetter (a : Option Addr) (la ca : Nat) (ps : List HeadV) (b : Option Addr) (lb cb : Nat) (qs : List HeadV) (w : World) (h : IsHeads w a la ca ps) (h2 : IsHeads w b lb cb qs) (hK : RowG w shaK) (hP : TabP w) (hE : ErrT w) :
    Calls Tryz.prog 6 #[.slice a la ca, .slice b lb cb] w fun e w' => e = .returned (.bool true) ∧ Below w.heap.size w w' := by
  have H0 : Hid (IsHeads w a la ca ps) := h
  have H2 : Hid (IsHeads w b lb cb qs) := h2
  have HLa : Hid (la = ps.length) := h.len.symm
  have HLb : Hid (lb = qs.length) := h2.len.symm
  have HK : Hid (RowG w shaK) := hK
  have HP : Hid (TabP w) := hP
  have HE : Hid (ErrT w) := hE
  clear h h2 hK hP hE
  go_enter Tryz.func6, Tryz.ntmps6
  go_wp2_with fail
  refine (szHeads a la ca ps w H0.out).mono ?_
  rintro e w0 ⟨b0, rfl | ⟨r, rfl, hr1, hl3, hsm⟩⟩
  · go_wp2_with fail
    go_ret
    exact ⟨rfl, b0⟩
  have HZa : Hid (∀ i, i < ps.length → wfHead (ps.getD i default)) := by
    intro i hi
    have := hsm i (by rw [HLa.out]; exact hi)
    unfold smallHead at this
    unfold wfHead maxLen
    omega
  clear hsm
  have hl4 : la ≤ 1073741824 := by omega
  have hr0 : ¬ (r : Int) < 0 := by omega
  have HB0 : Hid (Below w.heap.size w w0) := b0
  clear b0
  go_wp2_with fail
  refine (szHeadsR r hr1 b lb cb qs w0 w H2.out HB0.out).mono ?_
  rintro e w0' ⟨b0, rfl | ⟨r', rfl, hr1', hm3, hsm⟩⟩
  · go_wp2_with fail
    go_ret
    exact ⟨rfl, HB0.out.trans (b0.mono HB0.out.size)⟩
  have HZb : Hid (∀ i, i < qs.length → wfHead (qs.getD i default)) := by
    intro i hi
    have := hsm i (by rw [HLb.out]; exact hi)
    unfold smallHead at this
    unfold wfHead maxLen
    omega
  clear hsm
  have hm4 : lb ≤ 1073741824 := by omega
  have hr0' : ¬ (r' : Int) < 0 := by omega
  have HB00 : Hid (Below w.heap.size w w0') := HB0.out.trans (b0.mono HB0.out.size)
  clear b0 HB0
  go_wp2_with fail
  refine (toHeads a la ca ps _ w H0.out HB00.out hl3).mono ?_
  rintro e w1 ⟨rfl, r1, b1⟩
  have HR1 : Hid (RowHead w1 w0'.heap.size ps) := r1
  have HB1 : Hid (Below w.heap.size w w1) := HB00.out.trans (b1.mono HB00.out.size)
  clear r1 b1
  go_wp2_with fail
  refine (toHeads b lb cb qs _ w H2.out HB1.out hm3).mono ?_
  rintro e w1' ⟨rfl, r1, b1⟩
  have HR1' : Hid (RowHead w1' w1.heap.size qs) := r1
  have HR1a : Hid (RowHead w1' w0'.heap.size ps) := HR1.out.below b1 HR1.out.lt
  have HB1' : Hid (Below w.heap.size w w1') := HB1.out.trans (b1.mono HB1.out.size)
  clear r1 b1 HR1
  go_wp2_with fail
  refine (specChainBetter w0'.heap.size la la w1.heap.size lb lb ps qs _ ⟨HR1a.out.at 5 enHead_len, HLa.out, hl3, Nat.le_refl _, HZa.out⟩ ⟨HR1'.out.at 5 enHead_len, HLb.out, hm3, Nat.le_refl _, HZb.out⟩).mono ?_
  rintro e w2 ⟨rfl, b2⟩
  have HB2 : Hid (Below w.heap.size w w2) := HB1'.out.trans (b2.mono HB1'.out.size)
  clear b2 HB1 HB1' HR1a HR1' HB00
  go_wp2_with fail
  refine (toHeads a la ca ps _ w H0.out HB2.out hl3).mono ?_
  rintro e w3 ⟨rfl, r3, b3⟩
  have HR3 : Hid (RowHead w3 w2.heap.size ps) := r3
  have HB3 : Hid (Below w.heap.size w w3) := HB2.out.trans (b3.mono HB2.out.size)
  clear r3 b3
  go_wp2_with fail
  refine (toHeads b lb cb qs _ w H2.out HB3.out hm3).mono ?_
  rintro e w3' ⟨rfl, r3, b3⟩
  have HR3' : Hid (RowHead w3' w3.heap.size qs) := r3
  have HR3a : Hid (RowHead w3' w2.heap.size ps) := HR3.out.below b3 HR3.out.lt
  have HB3' : Hid (Below w.heap.size w w3') := HB3.out.trans (b3.mono HB3.out.size)
  clear r3 b3 HR3
  have HI := implChainBetter w2.heap.size la la w3.heap.size lb lb ps qs w3' ⟨HR3a.out.at 5 enHead_len, HLa.out, hl3, Nat.le_refl _, HK.out.below HB3'.out HK.out.lt, TabP.below HP.out HB3'.out (Nat.le_refl _)⟩ ⟨HR3'.out.at 5 enHead_len, HLb.out, hm3, Nat.le_refl _, HK.out.below HB3'.out HK.out.lt, TabP.below HP.out HB3'.out (Nat.le_refl _)⟩ (HE.out.below HB3'.out HE.out.lt)
  generalize chainBetterB ps qs = R at HI ⊢
  go_wp2_with fail
  refine HI.mono ?_
  rintro e w4 ⟨rfl, b4⟩
  have HR4 : Hid (RowHead w4 w2.heap.size ps) := HR3a.out.below b4 HR3a.out.lt
  have HR4' : Hid (RowHead w4 w3.heap.size qs) := HR3'.out.below b4 HR3'.out.lt
  have HB4 : Hid (Below w.heap.size w w4) := HB3'.out.trans (b4.mono HB3'.out.size)
  clear b4 HI HR3a HR3'
  cases R
  all_goals
    go_wp2_with fail
    refine (toHeads a la ca ps _ w H0.out HB4.out hl3).mono ?_
    rintro e w5 ⟨rfl, r5, b5⟩
    have HR5 : Hid (RowHead w5 w4.heap.size ps) := r5
    have HR45 : Hid (RowHead w5 w2.heap.size ps) := HR4.out.below b5 HR4.out.lt
    have HR45' : Hid (RowHead w5 w3.heap.size qs) := HR4'.out.below b5 HR4'.out.lt
    have HB5 : Hid (Below w.heap.size w w5) := HB4.out.trans (b5.mono HB4.out.size)
    clear r5 b5
    go_wp2_with fail
    refine (eqHeads w2.heap.size w4.heap.size la la la ps _ (HR45.out.at 5 enHead_len) (HR5.out.at 5 enHead_len) HLa.out hl4).mono ?_
    rintro e w6 ⟨rfl, b6⟩
    have HR6' : Hid (RowHead w6 w3.heap.size qs) := HR45'.out.below b6 HR45'.out.lt
    have HB6 : Hid (Below w.heap.size w w6) := HB5.out.trans (b6.mono HB5.out.size)
    clear b6
    go_wp2_with fail
    refine (toHeads b lb cb qs _ w H2.out HB6.out hm3).mono ?_
    rintro e w7 ⟨rfl, r7, b7⟩
    have HR7 : Hid (RowHead w7 w6.heap.size qs) := r7
    have HR67 : Hid (RowHead w7 w3.heap.size qs) := HR6'.out.below b7 HR6'.out.lt
    have HB7 : Hid (Below w.heap.size w w7) := HB6.out.trans (b7.mono HB6.out.size)
    clear r7 b7
    go_wp2_with fail
    refine (eqHeads w3.heap.size w6.heap.size lb lb lb qs _ (HR67.out.at 5 enHead_len) (HR7.out.at 5 enHead_len) HLb.out hm4).mono ?_
    rintro e w8 ⟨rfl, b8⟩
    go_wp2_with fail
    go_ret
    exact ⟨rfl, HB7.out.trans (b8.mono HB7.out.size)⟩

end Go.Proofs.YtkdeaekheeflaaaGreatDoor

namespace Go.Proofs.YtkdeaekheeflaaaGreatDoor
open Go.ChangeShapes Go.WideShapes Go.ChangeAt Go.RowKit
open Go.ChangeMaps (open_string shut_string)
set_option linter.unusedVariables false

theorem own_fnExactChainFork : ownKnob Tryz.prog.godebug = none := by kernel_rfl
theorem laid_fnExactChainFork : laidOutB Tryz.prog = true := by kernel_rfl
theorem table_fnExactChainFork {W : World} (h : laidMetH Tryz.prog Rows.fnExactChainForkRow.laid W) : RowG W shaK ∧ TabP W ∧ ErrT W := tabs_of_laidE h

theorem met_fnExactChainFork (os : Os) : laidMetH Tryz.prog Rows.fnExactChainForkRow.laid ((laidWorldE os).forCall (fun _ _ => 0) ⟨#[], #[.slice none 0 0, .slice none 0 0], []⟩).memory :=
  laidMetH_of_parts (laidMet_of_run' 8 (by kernel_rfl) (by kernel_rfl)) (by kernel_rfl)
theorem reads_fnExactChainFork (os : Os) {H : Type} (enc : TypeId × Value → H) : ∃ places, DataW.whole enc Tryz.prog ((laidWorldE os).forCall (fun _ _ => 0) ⟨#[], #[.slice none 0 0, .slice none 0 0], []⟩).memory Tryz.f7.params.toList Rows.fnExactChainForkSpec.vars false (#[.slice none 0 0, .slice none 0 0] : Array Value).toList 8 = some ([.nil, .nil], [Rows.laid_loop_example_cordillera_impl_sumRounds], places) :=
  ⟨MemPlace.row ⟨1, 0, none⟩ 64, by kernel_rfl⟩

set_option maxRecDepth 100000 in
theorem lifted_fnExactChainFork (os : Os) (started : os.Started) (H : Type) (enc : TypeId × Value → H) (F : Stop.Interp) :
    ReturnsInHanded {} Tryz.checked os 7 .any ((OpenSpec.ofChange Rows.fnExactChainForkSpec).preRow enc Tryz.prog Tryz.f7 Rows.fnExactChainForkRow.domain false Rows.fnExactChainForkRow.laid) (((OpenSpec.ofChange Rows.fnExactChainForkSpec).at F).post enc Tryz.prog Tryz.f7 false true false false) := by
  obtain ⟨places, hx⟩ := reads_fnExactChainFork os enc
  refine returnsInHanded_of_row (C := Tryz.checked) (s := OpenSpec.ofChange Rows.fnExactChainForkSpec) own_fnExactChainFork started (by kernel_rfl) Tryz.func7
    (witness_row_at (enc := enc) (C := Tryz.checked) false (laidWorldE os) #[.slice none 0 0, .slice none 0 0] rfl (by kernel_rfl) (by kernel_rfl) (by kernel_rfl)
      (OpenSpec.preRow_of_cond 8 hx (by kernel_rfl) (fun k hk => by cases hk) (by kernel_rfl) (met_fnExactChainFork os))) ?_
  intro W base args ds gs before hval0 hW _ _ _ hL _ _
  have hval : ∀ (j : Nat) t v, Tryz.f7.params[j]? = some t → args[j]? = some v → Value.okWide Tryz.prog W .any base t v := hval0
  have hW' := hW
  obtain ⟨p, q, hA0, hV, rfl, hfz, hnd⟩ := hW
  have hA : DataW.TrodAll enc Tryz.prog W 0 (fun _ => true) true Tryz.f7.params.toList args.toList ds p := hA0
  rw [Tryz.params7] at hA hval
  obtain ⟨v0, vs0, d0, ds0, p0, q0, hargs, rfl, rfl, h0, r0⟩ := trodAll_cons hA
  obtain ⟨v1, vs1, d1, ds1, p1, q1, rfl, rfl, rfl, h1, r1⟩ := trodAll_cons r0
  obtain ⟨rfl, rfl, rfl⟩ := trodAll_nil r1
  obtain rfl : args = #[v0, v1] := by cases args; simp_all
  obtain ⟨gv, tv, cv, fv, dv, pv, rfl, hgv, htv, hvv, hdv, rfl⟩ := trodVars_one hV
  obtain ⟨a0, len0, cap0, rfl⟩ := okWide_slice Tryz.underlying22 (hval 0 22 v0 rfl rfl)
  have k0 := h0
  have lt0 : ∀ x ∈ p0, x.block < W.heap.size := by obtain ⟨m, hm⟩ := k0; exact DataW.trod_lt m _ _ _ hm
  obtain ⟨z0, w0⟩ := open_heads h0
  obtain ⟨a1, len1, cap1, rfl⟩ := okWide_slice Tryz.underlying22 (hval 1 22 v1 rfl rfl)
  have k1 := h1
  have lt1 : ∀ x ∈ p1, x.block < W.heap.size := by obtain ⟨m, hm⟩ := k1; exact DataW.trod_lt m _ _ _ hm
  obtain ⟨z1, w1⟩ := open_heads h1
  clear hA0 hval0
  refine (walk_FnExactChainFork a0 len0 cap0 z0 a1 len1 cap1 z1 W w0 w1 (table_fnExactChainFork hL).1 (table_fnExactChainFork hL).2.1 (table_fnExactChainFork hL).2.2).mono fun e W' ⟨he, bel⟩ => ?_
  subst he
  obtain ⟨pv', hpv⟩ := varsBack laid_fnExactChainFork hgv htv hvv hdv bel
  exact ⟨_, rfl, _, _, _, [], _, pv', hW', trodAll_mk1 (shut_bool Tryz.underlying4 _), (trodAll_cons_mk (Below.trod laid_fnExactChainFork (by kernel_rfl) (of_decide_eq_true (by kernel_rfl)) k0 bel lt0) (trodAll_cons_mk (Below.trod laid_fnExactChainFork (by kernel_rfl) (of_decide_eq_true (by kernel_rfl)) k1 bel lt1) trodAll_mk0)), hpv, bel.frame _, fun h => by cases h⟩

theorem fnExactChainFork_said : Rows.FnExactChainForkSaid :=
  OpenClaim.holds_of_cond 7 Tryz.f7 rfl rfl rfl rfl rfl rfl rfl ⟨rfl, rfl, rfl, rfl, rfl⟩ rfl rfl rfl rfl rfl (by kernel_rfl) Tryz.func7 (by kernel_rfl)
    (of_decide_eq_true (by kernel_rfl)) (by unfold Func.isWrapper; first | (rw [if_pos (by decide +kernel)]; kernel_rfl) | (rw [if_neg (by decide +kernel)]; exact ⟨rfl, rfl⟩))
    (fun os started H enc _ F => by rw [OpenClaim.pre_eq_preRow]; exact lifted_fnExactChainFork os started H enc F)
theorem plain_fnExactChainFork (f : FuncId) (fn : Func) (hf : Tryz.pinned.checked.prog.funcNamed "loop.example/cordillera/laws.FnExactChainFork" = some f) (hfn : Tryz.pinned.checked.prog.funcs[f]? = some fn) :
    true = Tryz.pinned.checked.prog.looks [] ∧ ∀ (j : Nat) t, fn.params[j]? = some t → Tryz.pinned.checked.prog.wantsStandIn t = false := by
  obtain rfl : f = 7 := Option.some.inj ((show Tryz.prog.funcNamed "loop.example/cordillera/laws.FnExactChainFork" = some 7 by kernel_rfl).symm.trans hf) |>.symm
  obtain rfl : fn = Tryz.f7 := (Option.some.inj (Tryz.func7.symm.trans hfn)).symm
  refine ⟨by kernel_rfl, fun j t ht => ?_⟩
  rw [Tryz.params7] at ht
  have hall : ∀ t ∈ (#[22, 22] : Array TypeId), Tryz.prog.wantsStandIn t = false := by
    intro t ht
    simp only [List.mem_toArray, List.mem_cons, List.not_mem_nil, or_false] at ht
    rcases ht with rfl | rfl <;> kernel_rfl
  exact hall t (Array.mem_of_getElem? ht)
theorem fnExactChainFork_holds : Rows.FnExactChainForkCardSaid :=
  Claim7.holds_tied_plain_at .later [] _ _ _ _ fnExactChainFork_said (fun _ h => by cases h) (by kernel_rfl) (fun _ h => by cases h) fnExactChainFork_row_tie rfl ⟨rfl, rfl⟩ (by kernel_rfl) rfl plain_fnExactChainFork (by kernel_rfl)
#print axioms fnExactChainFork_holds
end Go.Proofs.YtkdeaekheeflaaaGreatDoor

