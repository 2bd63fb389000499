/-
  PaidCheck answers as the specification at every root, item and proof, and writes into no argument; for every input, no condition; the tables of the program as its text lays them.
-/
import Derived.Test.YtjeldedjhlicmaaGreatDoorPart1
import Derived.Test.YtjeldedjhlicmaaGreatDoorPart2
import Derived.Test.YtjeldedjhlicmaaGreatDoorPart3
import Derived.Test.YtjeldedjhlicmaaGreatDoorPart4
import Derived.Test.YtjeldedjhlicmaaGreatDoorPart5
import Derived.Test.YtjeldedjhlicmaaGreatDoorPart6
import Derived.Test.YtjeldedjhlicmaaGreatDoorPart7
import Derived.Test.YtjeldedjhlicmaaGreatDoorPart8
import Derived.Test.YtjeldedjhlicmaaGreatDoorPart9
import Derived.Deep.RegionHeld3
import Derived.Test.YtjeldedjhlicmaaGreatDoorCards
import Derived.Test.YtjeldedjhlicmaaGreatDoorTie
import Derived.WalkKit
import Derived.ProofKit
import Derived.OpenShut
import Derived.ShutString
import Derived.ChangeOld
import Derived.ChangeVars
import Derived.Below
import Derived.Carry
import Derived.Deep.DeepHandedRow
import Derived.Lib.LaidTab
set_option linter.unusedVariables false
namespace Go.Proofs.YtjeldedjhlicmaaGreatDoor
open Go.RowKit Go.Deep

theorem bothXR (a b : ByteArray) : ((⟨#[98, 111, 116, 104, 32]⟩ : ByteArray) ++ a ++ (⟨#[32]⟩ : ByteArray) ++ b).data.toList = [98, 111, 116, 104, 32] ++ a.data.toList ++ [32] ++ b.data.toList := by simp
theorem bothZ {a b : ByteArray} (ha : a.size = 16) (hb : b.size = 16) : ((⟨#[98, 111, 116, 104, 32]⟩ : ByteArray) ++ a ++ (⟨#[32]⟩ : ByteArray) ++ b).size ≤ 1073741824 := by
  simp only [ByteArray.size_append, ha, hb]
  have e1 : (⟨#[98, 111, 116, 104, 32]⟩ : ByteArray).size = 5 := rfl
  have e2 : (⟨#[32]⟩ : ByteArray).size = 1 := rfl
  omega
theorem itemX (a : ByteArray) : ((⟨#[105, 116, 101, 109, 32]⟩ : ByteArray) ++ a).data.toList = [105, 116, 101, 109, 32] ++ a.data.toList := by simp
theorem itemZ {a : ByteArray} (ha : a.size ≤ 1048576) : ((⟨#[105, 116, 101, 109, 32]⟩ : ByteArray) ++ a).size ≤ 1073741824 := by
  rw [ByteArray.size_append]
  have e1 : (⟨#[105, 116, 101, 109, 32]⟩ : ByteArray).size = 5 := rfl
  omega
theorem rootcheck_no {root item : ByteArray} {l : List SideV} (h : isItem item.data.toList = false ∨ sidesOkB l = false) : rootCheckB root item l = false := by
  unfold rootCheckB
  rcases h with h | h <;> rw [h] <;> simp

set_option maxHeartbeats 1000000 in
set_option maxRecDepth 100000 in
theorem specRootCheck (g n cap : Nat) (root item : ByteArray) (ps : List SideV) (w : World) (hit0 : item.size ≤ 1048576) (h : AtSide w g ps) (hn : n = ps.length) (hm : n ≤ 1073741824) (hz : ∀ i, i < ps.length → (ps.getD i default).sum.size ≤ maxLen) :
    Calls Tryz.prog 16 #[.string root, .string item, .slice (some ⟨g, 0, none⟩) n cap] w fun e w' => e = .returned (.bool (rootCheckB root item ps)) ∧ Below w.heap.size w w' := by
  have HA : Hid (AtSide w g ps) := h
  have HN : Hid (n = ps.length) := hn
  have HZ : Hid (∀ i, i < ps.length → (ps.getD i default).sum.size ≤ maxLen) := hz
  have hit := specItemOk item w (by unfold maxLen; omega)
  clear h hn hz
  cases hi : isItem item.data.toList with
  | false =>
    have HR : Hid (rootCheckB root item ps = false) := rootcheck_no (.inl hi)
    rw [hi] at hit
    go_enter Tryz.func16, Tryz.ntmps16
    go_wp2_with fail
    refine hit.mono ?_
    rintro e w1 ⟨rfl, rfl⟩
    go_wp2_with fail
    go_ret
    exact ⟨by rw [HR.out]; rfl, Below.refl _ _⟩
  | true =>
    rw [hi] at hit
    by_cases hl : (8 : Int) < (n : Int)
    · have HR : Hid (rootCheckB root item ps = false) := rootcheck_no (.inr (sidesOk_long (by rw [← HN.out]; omega)))
      go_enter Tryz.func16, Tryz.ntmps16
      go_wp2_with fail
      refine hit.mono ?_
      rintro e w1 ⟨rfl, rfl⟩
      go_wp2_with fail
      go_ret
      exact ⟨by rw [HR.out]; rfl, Below.refl _ _⟩
    have hsm := fun w' => specSum ((⟨#[105, 116, 101, 109, 32]⟩ : ByteArray) ++ item) w' (itemZ hit0)
    have e0 : (⟨(sumB ((⟨#[105, 116, 101, 109, 32]⟩ : ByteArray) ++ item).data.toList).toArray⟩ : ByteArray) = rootItemB item := by rw [itemX]; rfl
    rw [e0] at hsm
    have hri16 : (rootItemB item).size = 16 := bsum_size _
    have HR : Hid (sidesOkB ps = true → rootCheckB root item ps = decide (wayTo (rootItemB item) ps ps.length = root)) := by intro hs; rw [rootCheckB, hi, hs]; rfl
    have HRN : Hid (sidesOkB ps = false → rootCheckB root item ps = false) := fun hs => rootcheck_no (.inr hs)
    clear e0 hi
    generalize rootCheckB root item ps = RES at HR HRN ⊢
    generalize rootItemB item = r0 at hsm hri16 HR
    go_enter Tryz.func16, Tryz.ntmps16
    go_wp2_with fail
    refine hit.mono ?_
    rintro e w1 ⟨rfl, rfl⟩
    go_wp2_with fail
    refine (hsm _).mono ?_
    rintro e w2 ⟨rfl, b2⟩
    clear hit hsm
    go_wp2_with fail
    go_loopw [7, 8] (fun s i wr => ∃ (k : Nat) (t : ByteArray), k ≤ n ∧ i = .int .i64 (k : Int) ∧ s = .string t ∧ t.size = 16 ∧ Hid (t = wayTo r0 ps k) ∧ Hid (∀ q, q < k → sideOkB (ps.getD q default) = true) ∧ Hid (Below w.heap.size w wr)) (fun _ i _ => n - (intOf i).toNat)
    case atStart => exact ⟨0, r0, by omega, rfl, rfl, hri16, rfl, fun q hq => by omega, b2⟩
    case round =>
      clear b2
      obtain ⟨k, t, hk, rfl, rfl, ht, HT, HS, HB⟩ := hrel
      by_cases hlt : k < n
      · have hkl : k < ps.length := by rw [← HN.out]; exact hlt
        have HAr : Hid (AtSide wr g ps) := HA.out.below HB.out HA.out.1
        have c0 := AtSide.c0 HAr.out k hkl
        have c1 := AtSide.c1 HAr.out k hkl
        have hpz := HZ.out k hkl
        have lk : (k : Int) < (n : Int) := by omega
        have HK1 : Hid (k + 1 ≤ n) := hlt
        have HT2 : Hid (wayTo r0 ps (k + 1) = stepS t (ps.getD k default)) := by show _ = _; rw [HT.out]; rfl
        have HNO : Hid (sideOkB (ps.getD k default) = false → sidesOkB ps = false) := fun h => sidesOk_no k hkl h
        have HNX : Hid (sideOkB (ps.getD k default) = true → ∀ q, q < k + 1 → sideOkB (ps.getD q default) = true) := by
          intro h q hq
          rcases Nat.lt_or_ge q k with h' | h'
          · exact HS.out q h'
          · obtain rfl : q = k := by omega
            exact h
        unfold sideOkB at HNO HNX
        generalize ps.getD k default = p at c0 c1 hpz HT2 HNO HNX
        obtain ⟨ps1, left⟩ := p
        unfold stepS at HT2
        dsimp only at c0 c1 hpz HT2 HNO HNX
        clear hkl HT
        cases hok : isSum ps1.data.toList with
        | false =>
          have HR2 : Hid (RES = false) := HRN.out (HNO.out hok)
          clear HNO HNX HT2
          go_wp2_with (go_at_call 12; refine (specIsSum _ _ hpz).mono ?_; rintro e w3 ⟨rfl, rfl⟩)
          go_ret
          exact ⟨by rw [HR2.out]; rfl, HB.out⟩
        | true =>
          have HN2 : Hid (∀ q, q < k + 1 → sideOkB (ps.getD q default) = true) := HNX.out hok
          have hp16 : ps1.size = 16 := sum_size hok
          clear HNO HNX HS
          cases left with
          | true =>
            have hsm := fun w' => specSum ((⟨#[98, 111, 116, 104, 32]⟩ : ByteArray) ++ ps1 ++ (⟨#[32]⟩ : ByteArray) ++ t) w' (bothZ hp16 ht)
            have e0 : (⟨(sumB ((⟨#[98, 111, 116, 104, 32]⟩ : ByteArray) ++ ps1 ++ (⟨#[32]⟩ : ByteArray) ++ t).data.toList).toArray⟩ : ByteArray) = bothB ps1 t := by rw [bothXR]; rfl
            rw [e0] at hsm
            have HT3 : Hid (bothB ps1 t = wayTo r0 ps (k + 1)) := by show _ = _; rw [HT2.out]; rfl
            have ht2 : (bothB ps1 t).size = 16 := bsum_size _
            have q1 : ¬ 9223372036854775807 < ps1.size + t.size + 6 := by omega
            clear HT2 e0
            generalize bothB ps1 t = t2 at hsm HT3 ht2
            go_wp2_with (go_at_call 12; refine (specIsSum _ _ hpz).mono ?_; rintro e w3 ⟨rfl, rfl⟩)
            refine (hsm _).mono ?_
            rintro e w4 ⟨rfl, b4⟩
            have HB2 : Hid (Below w.heap.size w w4) := HB.out.trans (b4.mono HB.out.size)
            clear hsm b4 c0 c1 HAr HB
            go_wp2_with fail
            go_roundw
            case rel => exact ⟨k + 1, t2, HK1.out, by go_num, rfl, ht2, HT3, HN2, HB2⟩
            case measure => have := HK1.out; simp [intOf]; omega
          | false =>
            have hsm := fun w' => specSum ((⟨#[98, 111, 116, 104, 32]⟩ : ByteArray) ++ t ++ (⟨#[32]⟩ : ByteArray) ++ ps1) w' (bothZ ht hp16)
            have e0 : (⟨(sumB ((⟨#[98, 111, 116, 104, 32]⟩ : ByteArray) ++ t ++ (⟨#[32]⟩ : ByteArray) ++ ps1).data.toList).toArray⟩ : ByteArray) = bothB t ps1 := by rw [bothXR]; rfl
            rw [e0] at hsm
            have HT3 : Hid (bothB t ps1 = wayTo r0 ps (k + 1)) := by show _ = _; rw [HT2.out]; rfl
            have ht2 : (bothB t ps1).size = 16 := bsum_size _
            have q1 : ¬ 9223372036854775807 < t.size + ps1.size + 6 := by omega
            clear HT2 e0
            generalize bothB t ps1 = t2 at hsm HT3 ht2
            go_wp2_with (go_at_call 12; refine (specIsSum _ _ hpz).mono ?_; rintro e w3 ⟨rfl, rfl⟩)
            refine (hsm _).mono ?_
            rintro e w4 ⟨rfl, b4⟩
            have HB2 : Hid (Below w.heap.size w w4) := HB.out.trans (b4.mono HB.out.size)
            clear hsm b4 c0 c1 HAr HB
            go_wp2_with fail
            go_roundw
            case rel => exact ⟨k + 1, t2, HK1.out, by go_num, rfl, ht2, HT3, HN2, HB2⟩
            case measure => have := HK1.out; simp [intOf]; omega
      · obtain rfl : k = n := by omega
        have HR2 : Hid (RES = decide (t = root)) := by
          show _ = _
          rw [HR.out (sidesOk_yes (by rw [← HN.out]; omega) (fun i hi => HS.out i (by rw [HN.out]; exact hi))), ← HN.out, ← HT.out]
        go_wp2_with fail
        go_ret
        refine ⟨?_, HB.out⟩
        rw [HR2.out]
        show Ending.returned (Value.bool (t.toList == root.toList)) = _
        rw [sameB]

end Go.Proofs.YtjeldedjhlicmaaGreatDoor

set_option linter.unusedVariables false
namespace Go.Proofs.YtjeldedjhlicmaaGreatDoor
open Go.RowKit Go.Deep

/-- Whether it is proved that a head stands at a place of a range, and was made. -/
def standsB (root : ByteArray) (h : HeadV) (a : Int) (ps ss : List PeakV) : Bool := isSum root.data.toList && (headMeets h && decide (0 ≤ checkV root h a ps ss))
def paidB (root item : ByteArray) (h : HeadV) (a : Int) (ps ss : List PeakV) (ds : List SideV) : Bool := standsB root h a ps ss && rootCheckB h.root item ds
theorem CBk.eightC {w : World} {g : Nat} {T : TypeId} {a b c d e f x y : Value} (h : CBk w g T #[a, b, c, d, e, f, x, y]) : w.cell? ⟨g, 0, none⟩ = some a ∧ w.cell? ⟨g, 1, none⟩ = some b ∧ w.cell? ⟨g, 2, none⟩ = some c ∧ w.cell? ⟨g, 3, none⟩ = some d ∧ w.cell? ⟨g, 4, none⟩ = some e ∧ w.cell? ⟨g, 5, none⟩ = some f ∧ w.cell? ⟨g, 6, none⟩ = some x ∧ w.cell? ⟨g, 7, none⟩ = some y :=
  ⟨h.cell 0, h.cell 1, h.cell 2, h.cell 3, h.cell 4, h.cell 5, h.cell 6, h.cell 7⟩

set_option maxHeartbeats 4000000 in
set_option maxRecDepth 100000 in
theorem implStands (L : LPaid) (v : PaidV) (root : ByteArray) (w : World) (ham : L.a ≤ 9223372036854775807) (hS : PrfAt v.s w) (hK : RowG w shaK) (hP : TabP w) :
    Calls Tryz.prog 37 #[pheadVal L v, .string root] w fun e w' => e = .returned (.bool (standsB root L.h L.a v.s.ps v.s.ss)) ∧ Below w.heap.size w w' := by
  have L0 : Hid (Below w.heap.size w (w.alloc (.cells #[.int .i64 L.a, .string L.h.prev, .string L.h.root, .int .i64 L.h.time, .int .i64 L.h.diff, .int .i64 L.h.nonce, .slice (some ⟨v.s.g, 0, none⟩) v.s.n v.s.c, .slice (some ⟨v.s.sg, 0, none⟩) v.s.sn v.s.sc] 53))) := (Below.refl _ w).alloc (Nat.le_refl _) _
  have C0 : Hid (CBk (w.alloc (.cells #[.int .i64 L.a, .string L.h.prev, .string L.h.root, .int .i64 L.h.time, .int .i64 L.h.diff, .int .i64 L.h.nonce, .slice (some ⟨v.s.g, 0, none⟩) v.s.n v.s.c, .slice (some ⟨v.s.sg, 0, none⟩) v.s.sn v.s.sc] 53)) w.heap.size 53 #[.int .i64 L.a, .string L.h.prev, .string L.h.root, .int .i64 L.h.time, .int .i64 L.h.diff, .int .i64 L.h.nonce, .slice (some ⟨v.s.g, 0, none⟩) v.s.n v.s.c, .slice (some ⟨v.s.sg, 0, none⟩) v.s.sn v.s.sc]) := CBk.new w _ _
  have hso := fun w' => implSumOk root w'
  have HHM : Hid (∀ (w' : World), Below w.heap.size w w' → Calls Tryz.prog 54 #[headVal L.h] w' fun e w'' => e = .returned (.bool (headMeets L.h)) ∧ Below w'.heap.size w' w'') := fun w' hb => implHeadMeets L.h w' (hK.below hb hK.lt) (TabP.below hP hb (Nat.le_refl _))
  have HRC : Hid (∀ (w' : World), Below w.heap.size w w' → Calls Tryz.prog 55 #[.string root, headVal L.h, .int .i64 L.a, prfVal v.s] w' fun e w'' => e = .returned (.int .i64 (checkV root L.h L.a v.s.ps v.s.ss)) ∧ Below w'.heap.size w' w'') := fun w' hb => implRangeCheck root L.h L.a v.s w' ham (hS.below hb) (hK.below hb hK.lt) (TabP.below hP hb (Nat.le_refl _))
  unfold standsB
  generalize isSum root.data.toList = q1 at hso ⊢
  generalize headMeets L.h = q2 at HHM ⊢
  generalize checkV root L.h L.a v.s.ps v.s.ss = x at HRC ⊢
  clear ham hS hK hP
  unfold headVal at HHM HRC
  unfold prfVal at HRC
  unfold pheadVal
  go_enter Tryz.func37, Tryz.ntmps37
  go_wp2_with fail
  refine (hso _).mono ?_
  rintro e w1 ⟨rfl, rfl⟩
  cases q1 with
  | false =>
    clear HHM HRC hso
    go_wp2_with fail
    go_ret
    exact ⟨rfl, L0.out⟩
  | true =>
  have hhm := HHM.out _ L0.out
  clear HHM hso
  go_wp2_with fail
  refine hhm.mono ?_
  rintro e w2 ⟨rfl, b2⟩
  have L2 : Hid (Below w.heap.size w w2) := L0.out.trans (b2.mono L0.out.size)
  have C2 : Hid (CBk w2 w.heap.size 53 #[.int .i64 L.a, .string L.h.prev, .string L.h.root, .int .i64 L.h.time, .int .i64 L.h.diff, .int .i64 L.h.nonce, .slice (some ⟨v.s.g, 0, none⟩) v.s.n v.s.c, .slice (some ⟨v.s.sg, 0, none⟩) v.s.sn v.s.sc]) := C0.out.call b2
  clear L0 C0 b2 hhm
  cases q2 with
  | false =>
    clear HRC
    go_wp2_with fail
    go_ret
    exact ⟨rfl, L2.out⟩
  | true =>
  have hrc := HRC.out _ L2.out
  clear HRC
  obtain ⟨c0, c1, c2, c3, c4, c5, c6, c7⟩ := C2.out.eightC
  go_wp2_with fail
  refine hrc.mono ?_
  rintro e w3 ⟨rfl, b3⟩
  have L3 : Hid (Below w.heap.size w w3) := L2.out.trans (b3.mono L2.out.size)
  clear hrc b3 L2 C2 c0 c1 c2 c3 c4 c5 c6 c7
  go_wp2_with fail
  go_ret
  exact ⟨by simp, L3.out⟩

set_option maxHeartbeats 4000000 in
set_option maxRecDepth 100000 in
theorem implPaidHas (L : LPaid) (v : PaidV) (ds : List SideV) (root item : ByteArray) (w : World) (ham : L.a ≤ 9223372036854775807) (hS : PrfAt v.s w) (hd : AtSide w v.g ds) (hn : v.n = ds.length) (hm : v.n ≤ 1073741824) (hK : RowG w shaK) (hP : TabP w) :
    Calls Tryz.prog 21 #[paidVal L v, .string root, .string item] w fun e w' => e = .returned (.bool (paidB root item L.h L.a v.s.ps v.s.ss ds)) ∧ Below w.heap.size w w' := by
  have L0 : Hid (Below w.heap.size w (w.alloc (.cells #[.int .i64 L.a, .string L.h.prev, .string L.h.root, .int .i64 L.h.time, .int .i64 L.h.diff, .int .i64 L.h.nonce, .slice (some ⟨v.s.g, 0, none⟩) v.s.n v.s.c, .slice (some ⟨v.s.sg, 0, none⟩) v.s.sn v.s.sc, .slice (some ⟨v.g, 0, none⟩) v.n v.c] 55))) := (Below.refl _ w).alloc (Nat.le_refl _) _
  have C0 : Hid (CBk (w.alloc (.cells #[.int .i64 L.a, .string L.h.prev, .string L.h.root, .int .i64 L.h.time, .int .i64 L.h.diff, .int .i64 L.h.nonce, .slice (some ⟨v.s.g, 0, none⟩) v.s.n v.s.c, .slice (some ⟨v.s.sg, 0, none⟩) v.s.sn v.s.sc, .slice (some ⟨v.g, 0, none⟩) v.n v.c] 55)) w.heap.size 55 #[.int .i64 L.a, .string L.h.prev, .string L.h.root, .int .i64 L.h.time, .int .i64 L.h.diff, .int .i64 L.h.nonce, .slice (some ⟨v.s.g, 0, none⟩) v.s.n v.s.c, .slice (some ⟨v.s.sg, 0, none⟩) v.s.sn v.s.sc, .slice (some ⟨v.g, 0, none⟩) v.n v.c]) := CBk.new w _ _
  have hst := implStands L v root _ ham (hS.below L0.out) (hK.below L0.out hK.lt) (TabP.below hP L0.out (Nat.le_refl _))
  have HRC : Hid (∀ (w' : World), Below w.heap.size w w' → Calls Tryz.prog 38 #[.string L.h.root, .string item, .slice (some ⟨v.g, 0, none⟩) v.n v.c] w' fun e w'' => e = .returned (.bool (rootCheckB L.h.root item ds)) ∧ Below w'.heap.size w' w'') := fun w' hb => implRootCheck v.g v.n v.c L.h.root item ds w' (hd.below hb hd.1) hn hm (hK.below hb hK.lt)
  unfold paidB
  generalize standsB root L.h L.a v.s.ps v.s.ss = q1 at hst ⊢
  generalize rootCheckB L.h.root item ds = q2 at HRC ⊢
  clear ham hS hd hn hm hK hP
  unfold pheadVal at hst
  unfold paidVal
  go_enter Tryz.func21, Tryz.ntmps21
  go_wp2_with fail
  refine hst.mono ?_
  rintro e w1 ⟨rfl, b1⟩
  have L1 : Hid (Below w.heap.size w w1) := L0.out.trans (b1.mono L0.out.size)
  have C1 : Hid (CBk w1 w.heap.size 55 #[.int .i64 L.a, .string L.h.prev, .string L.h.root, .int .i64 L.h.time, .int .i64 L.h.diff, .int .i64 L.h.nonce, .slice (some ⟨v.s.g, 0, none⟩) v.s.n v.s.c, .slice (some ⟨v.s.sg, 0, none⟩) v.s.sn v.s.sc, .slice (some ⟨v.g, 0, none⟩) v.n v.c]) := C0.out.call b1
  clear L0 C0 b1 hst
  obtain ⟨c0, c1, c2, c3, c4, c5, c6, c7, c8⟩ := C1.out.nineC
  cases q1 with
  | false =>
    clear HRC
    go_wp2_with fail
    go_ret
    exact ⟨rfl, L1.out⟩
  | true =>
  have hrc := HRC.out _ L1.out
  clear HRC
  go_wp2_with fail
  refine hrc.mono ?_
  rintro e w2 ⟨rfl, b2⟩
  go_wp2_with fail
  go_ret
  exact ⟨by cases q2 <;> rfl, L1.out.trans (b2.mono L1.out.size)⟩

set_option maxHeartbeats 1000000 in
set_option maxRecDepth 100000 in
theorem implPaidCheck (L : LPaid) (v : PaidV) (ds : List SideV) (root item : ByteArray) (w : World) (ham : L.a ≤ 9223372036854775807) (hS : PrfAt v.s w) (hd : AtSide w v.g ds) (hn : v.n = ds.length) (hm : v.n ≤ 1073741824) (hK : RowG w shaK) (hP : TabP w) :
    Calls Tryz.prog 7 #[.string root, .string item, paidVal L v] w fun e w' => e = .returned (.bool (paidB root item L.h L.a v.s.ps v.s.ss ds)) ∧ Below w.heap.size w w' := by
  have L0 : Hid (Below w.heap.size w (w.alloc (.cells #[.int .i64 L.a, .string L.h.prev, .string L.h.root, .int .i64 L.h.time, .int .i64 L.h.diff, .int .i64 L.h.nonce, .slice (some ⟨v.s.g, 0, none⟩) v.s.n v.s.c, .slice (some ⟨v.s.sg, 0, none⟩) v.s.sn v.s.sc, .slice (some ⟨v.g, 0, none⟩) v.n v.c] 38))) := (Below.refl _ w).alloc (Nat.le_refl _) _
  have hop := implPaidOpen L v
  have HH : Hid (∀ w', Below w.heap.size w w' → Calls Tryz.prog 21 #[paidVal L v, .string root, .string item] w' fun e w'' => e = .returned (.bool (paidB root item L.h L.a v.s.ps v.s.ss ds)) ∧ Below w'.heap.size w' w'') := fun w' hb => implPaidHas L v ds root item w' ham (hS.below hb) (hd.below hb hd.1) hn hm (hK.below hb hK.lt) (TabP.below hP hb (Nat.le_refl _))
  generalize paidB root item L.h L.a v.s.ps v.s.ss ds = R at HH ⊢
  clear ham hS hd hn hm hK hP
  unfold paidVal at hop HH ⊢
  go_enter Tryz.func7, Tryz.ntmps7
  go_wp2_with fail
  refine (hop _).mono ?_
  rintro e w1 ⟨rfl, b1⟩
  have L1 : Hid (Below w.heap.size w w1) := L0.out.trans (b1.mono L0.out.size)
  clear L0 b1 hop
  go_wp2_with fail
  refine (HH.out _ L1.out).mono ?_
  rintro e w2 ⟨rfl, b2⟩
  go_wp2_with fail
  go_ret
  exact ⟨rfl, L1.out.trans (b2.mono L1.out.size)⟩

set_option maxHeartbeats 8000000 in
set_option maxRecDepth 100000 in
theorem specPaidCheck (L : LPaid) (v : PaidV) (ds : List SideV) (root item : ByteArray) (w : World) (hrz : root.size ≤ maxLen) (hiz : item.size ≤ 1048576) (hp : L.h.prev.size ≤ maxLen) (hr : L.h.root.size ≤ maxLen) (hS : PrfAt v.s w) (hpz : ∀ i, i < v.s.n → (v.s.ps.getD i default).sum.size ≤ maxLen) (hsz : ∀ i, i < v.s.sn → (v.s.ss.getD i default).sum.size ≤ maxLen) (hd : AtSide w v.g ds) (hn : v.n = ds.length) (hm : v.n ≤ 1073741824) (hdz : ∀ i, i < ds.length → (ds.getD i default).sum.size ≤ maxLen) :
    Calls Tryz.prog 5 #[.string root, .string item, paidVal L v] w fun e w' => e = .returned (.bool (paidB root item L.h L.a v.s.ps v.s.ss ds)) ∧ Below w.heap.size w w' := by
  have L0 : Hid (Below w.heap.size w (w.alloc (.cells #[.int .i64 L.a, .string L.h.prev, .string L.h.root, .int .i64 L.h.time, .int .i64 L.h.diff, .int .i64 L.h.nonce, .slice (some ⟨v.s.g, 0, none⟩) v.s.n v.s.c, .slice (some ⟨v.s.sg, 0, none⟩) v.s.sn v.s.sc, .slice (some ⟨v.g, 0, none⟩) v.n v.c] 38))) := (Below.refl _ w).alloc (Nat.le_refl _) _
  have C0 : Hid (CBk (w.alloc (.cells #[.int .i64 L.a, .string L.h.prev, .string L.h.root, .int .i64 L.h.time, .int .i64 L.h.diff, .int .i64 L.h.nonce, .slice (some ⟨v.s.g, 0, none⟩) v.s.n v.s.c, .slice (some ⟨v.s.sg, 0, none⟩) v.s.sn v.s.sc, .slice (some ⟨v.g, 0, none⟩) v.n v.c] 38)) w.heap.size 38 #[.int .i64 L.a, .string L.h.prev, .string L.h.root, .int .i64 L.h.time, .int .i64 L.h.diff, .int .i64 L.h.nonce, .slice (some ⟨v.s.g, 0, none⟩) v.s.n v.s.c, .slice (some ⟨v.s.sg, 0, none⟩) v.s.sn v.s.sc, .slice (some ⟨v.g, 0, none⟩) v.n v.c]) := CBk.new w _ _
  have hso := fun w' => specIsSum root w' hrz
  have HOK : Hid (∀ (w' : World), Calls Tryz.prog 13 #[headVal L.h] w' fun e w'' => e = .returned (.bool (headOkB L.h)) ∧ Below w'.heap.size w' w'') := fun w' => specL3Ok L.h w' hp hr
  have HHM : Hid (headOkB L.h = true → ∀ (w' : World), Calls Tryz.prog 14 #[headVal L.h] w' fun e w'' => e = .returned (.bool (headMeets L.h)) ∧ Below w'.heap.size w' w'') := fun hok w' => specL3Meets L.h w' hok
  have HMN : Hid (headOkB L.h = false → headMeets L.h = false) := fun hok => meets_no hok
  have HRC : Hid (∀ (w' : World), Below w.heap.size w w' → Calls Tryz.prog 15 #[.string root, headVal L.h, .int .i64 L.a, prfVal v.s] w' fun e w'' => e = .returned (.int .i64 (checkV root L.h L.a v.s.ps v.s.ss)) ∧ Below w'.heap.size w' w'') := fun w' hb => specRangeCheck root L.h L.a v.s w' (hS.below hb) hp hr hpz hsz
  have HRT : Hid (∀ (w' : World), Below w.heap.size w w' → Calls Tryz.prog 16 #[.string L.h.root, .string item, .slice (some ⟨v.g, 0, none⟩) v.n v.c] w' fun e w'' => e = .returned (.bool (rootCheckB L.h.root item ds)) ∧ Below w'.heap.size w' w'') := fun w' hb => specRootCheck v.g v.n v.c L.h.root item ds w' hiz (hd.below hb hd.1) hn hm hdz
  unfold paidB standsB
  generalize isSum root.data.toList = q1 at hso ⊢
  generalize headOkB L.h = qo at HOK HHM HMN
  generalize headMeets L.h = q2 at HHM HMN ⊢
  generalize checkV root L.h L.a v.s.ps v.s.ss = x at HRC ⊢
  generalize rootCheckB L.h.root item ds = q3 at HRT ⊢
  clear hrz hiz hp hr hS hpz hsz hd hn hm hdz
  unfold headVal at HOK HHM HRC
  unfold prfVal at HRC
  unfold paidVal
  go_enter Tryz.func5, Tryz.ntmps5
  go_wp2_with fail
  refine (hso _).mono ?_
  rintro e w1 ⟨rfl, rfl⟩
  cases q1 with
  | false =>
    clear HHM HRC hso HOK HMN HRT
    go_wp2_with fail
    go_ret
    exact ⟨rfl, L0.out⟩
  | true =>
  clear hso
  go_wp2_with fail
  refine (HOK.out _).mono ?_
  rintro e w2 ⟨rfl, b2⟩
  have L2 : Hid (Below w.heap.size w w2) := L0.out.trans (b2.mono L0.out.size)
  have C2 : Hid (CBk w2 w.heap.size 38 #[.int .i64 L.a, .string L.h.prev, .string L.h.root, .int .i64 L.h.time, .int .i64 L.h.diff, .int .i64 L.h.nonce, .slice (some ⟨v.s.g, 0, none⟩) v.s.n v.s.c, .slice (some ⟨v.s.sg, 0, none⟩) v.s.sn v.s.sc, .slice (some ⟨v.g, 0, none⟩) v.n v.c]) := C0.out.call b2
  clear L0 C0 b2 HOK
  cases qo with
  | false =>
    obtain rfl : q2 = false := HMN.out rfl
    clear HHM HRC HMN HRT
    go_wp2_with fail
    go_ret
    exact ⟨rfl, L2.out⟩
  | true =>
  have HH2 := HHM.out rfl
  obtain ⟨c0, c1, c2, c3, c4, c5, c6, c7, c8⟩ := C2.out.nineC
  clear HMN
  go_wp2_with fail
  refine (HH2 _).mono ?_
  rintro e w3 ⟨rfl, b3⟩
  have L3 : Hid (Below w.heap.size w w3) := L2.out.trans (b3.mono L2.out.size)
  have C3 : Hid (CBk w3 w.heap.size 38 #[.int .i64 L.a, .string L.h.prev, .string L.h.root, .int .i64 L.h.time, .int .i64 L.h.diff, .int .i64 L.h.nonce, .slice (some ⟨v.s.g, 0, none⟩) v.s.n v.s.c, .slice (some ⟨v.s.sg, 0, none⟩) v.s.sn v.s.sc, .slice (some ⟨v.g, 0, none⟩) v.n v.c]) := C2.out.call b3
  clear L2 C2 b3 HHM HH2 c0 c1 c2 c3 c4 c5 c6 c7 c8
  cases q2 with
  | false =>
    clear HRC HRT
    go_wp2_with fail
    go_ret
    exact ⟨rfl, L3.out⟩
  | true =>
  obtain ⟨c0, c1, c2, c3, c4, c5, c6, c7, c8⟩ := C3.out.nineC
  go_wp2_with fail
  refine (HRC.out _ L3.out).mono ?_
  rintro e w4 ⟨rfl, b4⟩
  have L4 : Hid (Below w.heap.size w w4) := L3.out.trans (b4.mono L3.out.size)
  have C4 : Hid (CBk w4 w.heap.size 38 #[.int .i64 L.a, .string L.h.prev, .string L.h.root, .int .i64 L.h.time, .int .i64 L.h.diff, .int .i64 L.h.nonce, .slice (some ⟨v.s.g, 0, none⟩) v.s.n v.s.c, .slice (some ⟨v.s.sg, 0, none⟩) v.s.sn v.s.sc, .slice (some ⟨v.g, 0, none⟩) v.n v.c]) := C3.out.call b4
  clear L3 C3 b4 HRC c0 c1 c2 c3 c4 c5 c6 c7 c8
  obtain ⟨c0, c1, c2, c3, c4, c5, c6, c7, c8⟩ := C4.out.nineC
  by_cases hx : 0 ≤ x
  · go_wp2_with fail
    refine (HRT.out _ L4.out).mono ?_
    rintro e w5 ⟨rfl, b5⟩
    go_wp2_with fail
    go_ret
    exact ⟨by simp [hx], L4.out.trans (b5.mono L4.out.size)⟩
  · clear HRT
    go_wp2_with fail
    go_ret
    exact ⟨by simp; intro h9; omega, L4.out⟩

end Go.Proofs.YtjeldedjhlicmaaGreatDoor

set_option linter.unusedVariables false
namespace Go.Proofs.YtjeldedjhlicmaaGreatDoor
open Go.ChangeShapes Go.WideShapes Go.ChangeAt Go.RowKit Go.Deep

set_option maxHeartbeats 8000000 in
set_option maxRecDepth 100000 in
theorem walk_FnExactPaidCheck (root item : ByteArray) (L : LPaid) (w : World) (hroot : root.size ≤ maxLen) (hitem : item.size ≤ maxLen) (h0 : IsPaid w L) (hK : RowG w shaK) (hP : TabP w) :
    Calls Tryz.prog 3 #[.string root, .string item, lpaidVal L] w fun e w' => e = .returned (.bool true) ∧ Below w.heap.size w w' := by
  have HLN : Hid (LenPaid L) := h0.lens
  have HSZ : Hid (∀ w1, Below w.heap.size w w1 → Calls Tryz.prog 4 #[lpaidVal L, .int .i64 1048576] w1 fun e w' => Below w1.heap.size w1 w' ∧ (e = .returned (.int .i64 (-1)) ∨ ∃ r : Nat, e = .returned (.int .i64 (r : Int)) ∧ r ≤ 1048576 ∧ SmallPaid L)) := fun w1 hb => szPaid1 L w1 (h0.below hb)
  have HTO : Hid (SmallPaid L → ∀ w1, Below w.heap.size w w1 → Calls Tryz.prog 6 #[lpaidVal L] w1 fun e w' => ∃ v, e = .returned (paidVal L v) ∧ CopyPaid w1.heap.size L v w' ∧ Below w1.heap.size w1 w') := fun hs w1 hb => toPaid1 L w1 w h0 hb hs
  have ham := (bounds_i64 h0.a).2
  have HSP : Hid (SmallPaid L → item.size ≤ 1048576 → ∀ (v : PaidV) (B : Nat) w1, CopyPaid B L v w1 → Calls Tryz.prog 5 #[.string root, .string item, paidVal L v] w1 fun e w' => e = .returned (.bool (paidB root item L.h L.a L.r.pl L.r.sl L.dl)) ∧ Below w1.heap.size w1 w') := fun hs hi v B w1 hc => by
    have := specPaidCheck L v L.dl root item w1 hroot hi (by have := hs.h.1; unfold maxLen; omega) (by have := hs.h.2; unfold maxLen; omega) (hc.r.at hs.r HLN.out.p HLN.out.s) (fun i hi => by rw [hc.r.ps]; rw [hc.r.pn] at hi; have := hs.r.ps i hi; unfold maxLen; omega) (fun i hi => by rw [hc.r.ss]; rw [hc.r.sn] at hi; have := hs.r.ss i hi; unfold maxLen; omega) (hc.d.at 2 enSide_len) (by rw [hc.dn, HLN.out.d]) (by rw [hc.dn]; have := hs.dn; omega) (fun i hi => by have := hs.ds i (by rw [← HLN.out.d]; exact hi); unfold smallSide at this; unfold maxLen; omega)
    rw [hc.r.ps, hc.r.ss] at this
    exact this
  have HIM : Hid (SmallPaid L → ∀ (v : PaidV) (B : Nat) w1, CopyPaid B L v w1 → Below w.heap.size w w1 → Calls Tryz.prog 7 #[.string root, .string item, paidVal L v] w1 fun e w' => e = .returned (.bool (paidB root item L.h L.a L.r.pl L.r.sl L.dl)) ∧ Below w1.heap.size w1 w') := fun hs v B w1 hc hb => by
    have := implPaidCheck L v L.dl root item w1 ham (hc.r.at hs.r HLN.out.p HLN.out.s) (hc.d.at 2 enSide_len) (by rw [hc.dn, HLN.out.d]) (by rw [hc.dn]; have := hs.dn; omega) (hK.below hb hK.lt) (TabP.below hP hb (Nat.le_refl _))
    rw [hc.r.ps, hc.r.ss] at this
    exact this
  have HEQ : Hid (SmallPaid L → ∀ (u v : PaidV) (B C : Nat) w1, CopyPaid B L u w1 → CopyPaid C L v w1 → Calls Tryz.prog 8 #[paidVal L u, paidVal L v] w1 fun e w' => e = .returned (.bool true) ∧ Below w1.heap.size w1 w') := fun hs u v B C w1 h1 h2 => eqPaid1 L u v B C w1 hs HLN.out h1 h2
  clear h0 HLN hK hP ham
  generalize (paidB root item L.h L.a L.r.pl L.r.sl L.dl) = R at HSP HIM
  unfold lpaidVal at HSZ HTO ⊢
  unfold paidVal at HTO HSP HIM HEQ
  have C0 : Hid (CBk (w.alloc (.cells #[.int .i64 L.a, .string L.h.prev, .string L.h.root, .int .i64 L.h.time, .int .i64 L.h.diff, .int .i64 L.h.nonce, .slice L.r.pa L.r.pn L.r.pc, .slice L.r.sa L.r.sn L.r.sc, .slice L.da L.dn L.dc] 29)) w.heap.size 29 #[.int .i64 L.a, .string L.h.prev, .string L.h.root, .int .i64 L.h.time, .int .i64 L.h.diff, .int .i64 L.h.nonce, .slice L.r.pa L.r.pn L.r.pc, .slice L.r.sa L.r.sn L.r.sc, .slice L.da L.dn L.dc]) := CBk.new w _ _
  have L0 : Hid (Below w.heap.size w (w.alloc (.cells #[.int .i64 L.a, .string L.h.prev, .string L.h.root, .int .i64 L.h.time, .int .i64 L.h.diff, .int .i64 L.h.nonce, .slice L.r.pa L.r.pn L.r.pc, .slice L.r.sa L.r.sn L.r.sc, .slice L.da L.dn L.dc] 29))) := (Below.refl _ w).alloc (Nat.le_refl _) _
  by_cases hrz : (1048576 : Int) < (root.size : Int)
  · clear HSZ HTO HSP HIM HEQ
    go_enter Tryz.func3, Tryz.ntmps3
    go_wp2_with fail
    go_ret
    exact ⟨rfl, L0.out⟩
  by_cases hiz : (1048576 : Int) < (item.size : Int)
  · clear HSZ HTO HSP HIM HEQ
    go_enter Tryz.func3, Tryz.ntmps3
    go_wp2_with fail
    go_ret
    exact ⟨rfl, L0.out⟩
  have HIT : Hid (item.size ≤ 1048576) := by show _ ≤ _; omega
  go_enter Tryz.func3, Tryz.ntmps3
  go_wp2_with fail
  clear hrz hiz
  refine (HSZ.out _ L0.out).mono ?_
  rintro e w1 ⟨b1, rfl | ⟨r, rfl, hr, hsm⟩⟩
  · have L1 : Hid (Below w.heap.size w w1) := L0.out.trans (b1.mono L0.out.size)
    clear HTO HSP HIM HEQ
    go_wp2_with fail
    go_ret
    exact ⟨rfl, L1.out⟩
  have HTO : Hid _ := HTO.out hsm
  have HSP : Hid _ := HSP.out hsm HIT.out
  have HIM : Hid _ := HIM.out hsm
  have HEQ : Hid _ := HEQ.out hsm
  have L1 : Hid (Below w.heap.size w w1) := L0.out.trans (b1.mono L0.out.size)
  have C1 : Hid (CBk w1 w.heap.size 29 #[.int .i64 L.a, .string L.h.prev, .string L.h.root, .int .i64 L.h.time, .int .i64 L.h.diff, .int .i64 L.h.nonce, .slice L.r.pa L.r.pn L.r.pc, .slice L.r.sa L.r.sn L.r.sc, .slice L.da L.dn L.dc]) := C0.out.call b1
  clear C0 L0 b1 HSZ hsm
  have hr0 : ¬ (r : Int) < 0 := by omega
  obtain ⟨c0, c1, c2, c3, c4, c5, c6, c7, c8⟩ := C1.out.nineC
  go_wp2_with fail
  refine (HTO.out _ L1.out).mono ?_
  rintro e w2 ⟨v2, rfl, c2', b2⟩
  have L2 : Hid (Below w.heap.size w w2) := L1.out.trans (b2.mono L1.out.size)
  have C2 : Hid (CBk w2 w.heap.size 29 #[.int .i64 L.a, .string L.h.prev, .string L.h.root, .int .i64 L.h.time, .int .i64 L.h.diff, .int .i64 L.h.nonce, .slice L.r.pa L.r.pn L.r.pc, .slice L.r.sa L.r.sn L.r.sc, .slice L.da L.dn L.dc]) := C1.out.call b2
  have hsp := HSP.out v2 _ w2 c2'
  clear c0 c1 c2 c3 c4 c5 c6 c7 c8 C1 b2 c2' L1 hr0
  go_wp2_with fail
  refine hsp.mono ?_
  rintro e w3 ⟨rfl, b3⟩
  have L3 : Hid (Below w.heap.size w w3) := L2.out.trans (b3.mono L2.out.size)
  have C3 : Hid (CBk w3 w.heap.size 29 #[.int .i64 L.a, .string L.h.prev, .string L.h.root, .int .i64 L.h.time, .int .i64 L.h.diff, .int .i64 L.h.nonce, .slice L.r.pa L.r.pn L.r.pc, .slice L.r.sa L.r.sn L.r.sc, .slice L.da L.dn L.dc]) := C2.out.call b3
  obtain ⟨c0, c1, c2, c3, c4, c5, c6, c7, c8⟩ := C3.out.nineC
  clear hsp b3 C2 L2
  go_wp2_with fail
  refine (HTO.out _ L3.out).mono ?_
  rintro e w4 ⟨v4, rfl, r4, b4⟩
  have L4 : Hid (Below w.heap.size w w4) := L3.out.trans (b4.mono L3.out.size)
  have C4 : Hid (CBk w4 w.heap.size 29 #[.int .i64 L.a, .string L.h.prev, .string L.h.root, .int .i64 L.h.time, .int .i64 L.h.diff, .int .i64 L.h.nonce, .slice L.r.pa L.r.pn L.r.pc, .slice L.r.sa L.r.sn L.r.sc, .slice L.da L.dn L.dc]) := C3.out.call b4
  have R4 : Hid (CopyPaid w3.heap.size L v4 w4) := r4
  clear c0 c1 c2 c3 c4 c5 c6 c7 c8 C3 b4 r4 L3
  have X4 : Hid (CBk (w4.alloc (.cells #[.int .i64 L.a, .string L.h.prev, .string L.h.root, .int .i64 L.h.time, .int .i64 L.h.diff, .int .i64 L.h.nonce, .slice (some ⟨v4.s.g, 0, none⟩) v4.s.n v4.s.c, .slice (some ⟨v4.s.sg, 0, none⟩) v4.s.sn v4.s.sc, .slice (some ⟨v4.g, 0, none⟩) v4.n v4.c] 38)) w4.heap.size 38 #[.int .i64 L.a, .string L.h.prev, .string L.h.root, .int .i64 L.h.time, .int .i64 L.h.diff, .int .i64 L.h.nonce, .slice (some ⟨v4.s.g, 0, none⟩) v4.s.n v4.s.c, .slice (some ⟨v4.s.sg, 0, none⟩) v4.s.sn v4.s.sc, .slice (some ⟨v4.g, 0, none⟩) v4.n v4.c]) := CBk.new w4 _ _
  have L5 : Hid (Below w.heap.size w (w4.alloc (.cells #[.int .i64 L.a, .string L.h.prev, .string L.h.root, .int .i64 L.h.time, .int .i64 L.h.diff, .int .i64 L.h.nonce, .slice (some ⟨v4.s.g, 0, none⟩) v4.s.n v4.s.c, .slice (some ⟨v4.s.sg, 0, none⟩) v4.s.sn v4.s.sc, .slice (some ⟨v4.g, 0, none⟩) v4.n v4.c] 38))) := L4.out.alloc L4.out.size _
  have C5 : Hid (CBk (w4.alloc (.cells #[.int .i64 L.a, .string L.h.prev, .string L.h.root, .int .i64 L.h.time, .int .i64 L.h.diff, .int .i64 L.h.nonce, .slice (some ⟨v4.s.g, 0, none⟩) v4.s.n v4.s.c, .slice (some ⟨v4.s.sg, 0, none⟩) v4.s.sn v4.s.sc, .slice (some ⟨v4.g, 0, none⟩) v4.n v4.c] 38)) w.heap.size 29 #[.int .i64 L.a, .string L.h.prev, .string L.h.root, .int .i64 L.h.time, .int .i64 L.h.diff, .int .i64 L.h.nonce, .slice L.r.pa L.r.pn L.r.pc, .slice L.r.sa L.r.sn L.r.sc, .slice L.da L.dn L.dc]) := C4.out.alloc _
  have R5 : Hid (CopyPaid w3.heap.size L v4 (w4.alloc (.cells #[.int .i64 L.a, .string L.h.prev, .string L.h.root, .int .i64 L.h.time, .int .i64 L.h.diff, .int .i64 L.h.nonce, .slice (some ⟨v4.s.g, 0, none⟩) v4.s.n v4.s.c, .slice (some ⟨v4.s.sg, 0, none⟩) v4.s.sn v4.s.sc, .slice (some ⟨v4.g, 0, none⟩) v4.n v4.c] 38))) := R4.out.below ((Below.refl _ w4).alloc (Nat.le_refl _) _)
  have him := HIM.out v4 _ _ R5.out L5.out
  clear HIM HSP C4 L4 R4
  go_wp2_with fail
  refine him.mono ?_
  rintro e w6 ⟨rfl, b6⟩
  have X6 : Hid (CBk w6 w4.heap.size 38 #[.int .i64 L.a, .string L.h.prev, .string L.h.root, .int .i64 L.h.time, .int .i64 L.h.diff, .int .i64 L.h.nonce, .slice (some ⟨v4.s.g, 0, none⟩) v4.s.n v4.s.c, .slice (some ⟨v4.s.sg, 0, none⟩) v4.s.sn v4.s.sc, .slice (some ⟨v4.g, 0, none⟩) v4.n v4.c]) := X4.out.call b6
  have L6 : Hid (Below w.heap.size w w6) := L5.out.trans (b6.mono L5.out.size)
  have C6 : Hid (CBk w6 w.heap.size 29 #[.int .i64 L.a, .string L.h.prev, .string L.h.root, .int .i64 L.h.time, .int .i64 L.h.diff, .int .i64 L.h.nonce, .slice L.r.pa L.r.pn L.r.pc, .slice L.r.sa L.r.sn L.r.sc, .slice L.da L.dn L.dc]) := C5.out.call b6
  have R6 : Hid (CopyPaid w3.heap.size L v4 w6) := R5.out.below b6
  clear X4 L5 C5 R5 b6 him
  obtain ⟨c0, c1, c2, c3, c4, c5, c6, c7, c8⟩ := C6.out.nineC
  obtain ⟨d0, d1, d2, d3, d4, d5, d6, d7, d8⟩ := X6.out.nineC
  cases R <;>
  · go_wp2_with fail
    go_region_held3 (fun w' => (w'.cell? ⟨w4.heap.size, 0, none⟩ = some (.int .i64 L.a) ∧ w'.cell? ⟨w4.heap.size, 1, none⟩ = some (.string L.h.prev) ∧ w'.cell? ⟨w4.heap.size, 2, none⟩ = some (.string L.h.root) ∧ w'.cell? ⟨w4.heap.size, 3, none⟩ = some (.int .i64 L.h.time) ∧ w'.cell? ⟨w4.heap.size, 4, none⟩ = some (.int .i64 L.h.diff) ∧ w'.cell? ⟨w4.heap.size, 5, none⟩ = some (.int .i64 L.h.nonce) ∧ w'.cell? ⟨w4.heap.size, 6, none⟩ = some (.slice (some ⟨v4.s.g, 0, none⟩) v4.s.n v4.s.c) ∧ w'.cell? ⟨w4.heap.size, 7, none⟩ = some (.slice (some ⟨v4.s.sg, 0, none⟩) v4.s.sn v4.s.sc) ∧ w'.cell? ⟨w4.heap.size, 8, none⟩ = some (.slice (some ⟨v4.g, 0, none⟩) v4.n v4.c)) ∧ (w'.cell? ⟨w.heap.size, 0, none⟩ = some (.int .i64 L.a) ∧ w'.cell? ⟨w.heap.size, 1, none⟩ = some (.string L.h.prev) ∧ w'.cell? ⟨w.heap.size, 2, none⟩ = some (.string L.h.root) ∧ w'.cell? ⟨w.heap.size, 3, none⟩ = some (.int .i64 L.h.time) ∧ w'.cell? ⟨w.heap.size, 4, none⟩ = some (.int .i64 L.h.diff) ∧ w'.cell? ⟨w.heap.size, 5, none⟩ = some (.int .i64 L.h.nonce) ∧ w'.cell? ⟨w.heap.size, 6, none⟩ = some (.slice L.r.pa L.r.pn L.r.pc) ∧ w'.cell? ⟨w.heap.size, 7, none⟩ = some (.slice L.r.sa L.r.sn L.r.sc) ∧ w'.cell? ⟨w.heap.size, 8, none⟩ = some (.slice L.da L.dn L.dc)))
      (first | exact ⟨X6.out.drewP.nineC, C6.out.drewP.nineC⟩ | exact ⟨X7.out.nineC, C7.out.nineC⟩ | exact ⟨X8.out.nineC, C8.out.nineC⟩)
      (first
        | (go_at_call 6; refine (HTO.out _ L6.out.drew).mono ?_; rintro e w7 ⟨v7, rfl, r7, b7⟩; have L7 : Hid (Below w.heap.size w w7) := L6.out.drew.trans (b7.mono L6.out.size); have X7 : Hid (CBk w7 w4.heap.size 38 #[.int .i64 L.a, .string L.h.prev, .string L.h.root, .int .i64 L.h.time, .int .i64 L.h.diff, .int .i64 L.h.nonce, .slice (some ⟨v4.s.g, 0, none⟩) v4.s.n v4.s.c, .slice (some ⟨v4.s.sg, 0, none⟩) v4.s.sn v4.s.sc, .slice (some ⟨v4.g, 0, none⟩) v4.n v4.c]) := X6.out.drewP.call b7; have C7 : Hid (CBk w7 w.heap.size 29 #[.int .i64 L.a, .string L.h.prev, .string L.h.root, .int .i64 L.h.time, .int .i64 L.h.diff, .int .i64 L.h.nonce, .slice L.r.pa L.r.pn L.r.pc, .slice L.r.sa L.r.sn L.r.sc, .slice L.da L.dn L.dc]) := C6.out.drewP.call b7; have R7 : Hid (CopyPaid w3.heap.size L v4 w7) := (R6.out.below (Below.refl _ _).drew).below b7; have Q7 : Hid (CopyPaid w6.drew.heap.size L v7 w7) := r7)
        | (go_at_call 8; refine (HEQ.out v4 v7 _ _ _ R7.out Q7.out).mono ?_; rintro e w8 ⟨rfl, b8⟩; have L8 : Hid (Below w.heap.size w w8) := L7.out.trans (b8.mono L7.out.size); have X8 : Hid (CBk w8 w4.heap.size 38 #[.int .i64 L.a, .string L.h.prev, .string L.h.root, .int .i64 L.h.time, .int .i64 L.h.diff, .int .i64 L.h.nonce, .slice (some ⟨v4.s.g, 0, none⟩) v4.s.n v4.s.c, .slice (some ⟨v4.s.sg, 0, none⟩) v4.s.sn v4.s.sc, .slice (some ⟨v4.g, 0, none⟩) v4.n v4.c]) := X7.out.call b8; have C8 : Hid (CBk w8 w.heap.size 29 #[.int .i64 L.a, .string L.h.prev, .string L.h.root, .int .i64 L.h.time, .int .i64 L.h.diff, .int .i64 L.h.nonce, .slice L.r.pa L.r.pn L.r.pc, .slice L.r.sa L.r.sn L.r.sc, .slice L.da L.dn L.dc]) := C7.out.call b8))
    go_wp2_with fail
    go_ret
    exact ⟨rfl, L8.out⟩

end Go.Proofs.YtjeldedjhlicmaaGreatDoor

namespace Go.Proofs.YtjeldedjhlicmaaGreatDoor
open Go.ChangeShapes Go.WideShapes Go.ChangeAt Go.RowKit
open Go.ChangeMaps (open_string shut_string)
set_option linter.unusedVariables false

theorem own_fnExactPaidCheck : ownKnob Tryz.prog.godebug = none := by kernel_rfl
theorem laid_fnExactPaidCheck : laidOutB Tryz.prog = true := by kernel_rfl
theorem table_fnExactPaidCheck {W : World} (h : laidMetH Tryz.prog Rows.fnExactPaidCheckRow.laid W) : RowG W shaK ∧ TabP W := tabs_of_laid h

theorem met_fnExactPaidCheck (os : Os) : laidMet Tryz.prog Rows.fnExactPaidCheckRow.laid ((laidWorld os).forCall (fun _ _ => 0) ⟨#[], #[.string ByteArray.empty, .string ByteArray.empty, .agg #[.int .i64 0, .string ByteArray.empty, .string ByteArray.empty, .int .i64 0, .int .i64 0, .int .i64 0, .slice none 0 0, .slice none 0 0, .slice none 0 0]], []⟩).memory :=
  laidMet_of_run' 8 (by kernel_rfl) (by kernel_rfl)
theorem reads_fnExactPaidCheck (os : Os) {H : Type} (enc : TypeId × Value → H) : ∃ places, DataW.whole enc Tryz.prog ((laidWorld os).forCall (fun _ _ => 0) ⟨#[], #[.string ByteArray.empty, .string ByteArray.empty, .agg #[.int .i64 0, .string ByteArray.empty, .string ByteArray.empty, .int .i64 0, .int .i64 0, .int .i64 0, .slice none 0 0, .slice none 0 0, .slice none 0 0]], []⟩).memory Tryz.f3.params.toList Rows.fnExactPaidCheckSpec.vars false (#[.string ByteArray.empty, .string ByteArray.empty, .agg #[.int .i64 0, .string ByteArray.empty, .string ByteArray.empty, .int .i64 0, .int .i64 0, .int .i64 0, .slice none 0 0, .slice none 0 0, .slice none 0 0]] : Array Value).toList 8 = some ([.lit (.string []), .lit (.string []), .agg [.lit (.int .i64 0), .agg [.lit (.string []), .lit (.string []), .lit (.int .i64 0), .lit (.int .i64 0), .lit (.int .i64 0)], .agg [.nil, .nil], .nil]], [Rows.laid_loop_example_cordillera_impl_sumRounds], places) :=
  ⟨MemPlace.row ⟨0, 0, none⟩ 64, by kernel_rfl⟩

set_option maxRecDepth 100000 in
theorem lifted_fnExactPaidCheck (os : Os) (started : os.Started) (H : Type) (enc : TypeId × Value → H) (F : Stop.Interp) :
    ReturnsInHanded {} Tryz.checked os 3 .any ((OpenSpec.ofChange Rows.fnExactPaidCheckSpec).preRow enc Tryz.prog Tryz.f3 Rows.fnExactPaidCheckRow.domain false Rows.fnExactPaidCheckRow.laid) (((OpenSpec.ofChange Rows.fnExactPaidCheckSpec).at F).post enc Tryz.prog Tryz.f3 false true false false) := by
  obtain ⟨places, hx⟩ := reads_fnExactPaidCheck os enc
  refine returnsInHanded_of_row (C := Tryz.checked) (s := OpenSpec.ofChange Rows.fnExactPaidCheckSpec) own_fnExactPaidCheck started (by kernel_rfl) Tryz.func3
    (witness_row_at (enc := enc) (C := Tryz.checked) false (laidWorld os) #[.string ByteArray.empty, .string ByteArray.empty, .agg #[.int .i64 0, .string ByteArray.empty, .string ByteArray.empty, .int .i64 0, .int .i64 0, .int .i64 0, .slice none 0 0, .slice none 0 0, .slice none 0 0]] rfl (by kernel_rfl) (by kernel_rfl) (by kernel_rfl)
      (OpenSpec.preRow_of_cond 8 hx (by kernel_rfl) (fun k hk => by cases hk) (by kernel_rfl) (met_fnExactPaidCheck os))) ?_
  intro W base args ds gs before hval0 hW _ _ _ hL _ _
  have hval : ∀ (j : Nat) t v, Tryz.f3.params[j]? = some t → args[j]? = some v → Value.okWide Tryz.prog W .any base t v := hval0
  have hW' := hW
  obtain ⟨p, q, hA0, hV, rfl, hfz, hnd⟩ := hW
  have hA : DataW.TrodAll enc Tryz.prog W 0 (fun _ => true) true Tryz.f3.params.toList args.toList ds p := hA0
  rw [Tryz.params3] at hA hval
  obtain ⟨v0, vs0, d0, ds0, p0, q0, hargs, rfl, rfl, h0, r0⟩ := trodAll_cons hA
  obtain ⟨v1, vs1, d1, ds1, p1, q1, rfl, rfl, rfl, h1, r1⟩ := trodAll_cons r0
  obtain ⟨v2, vs2, d2, ds2, p2, q2, rfl, rfl, rfl, h2, r2⟩ := trodAll_cons r1
  obtain ⟨rfl, rfl, rfl⟩ := trodAll_nil r2
  obtain rfl : args = #[v0, v1, v2] := by cases args; simp_all
  obtain ⟨gv, tv, cv, fv, dv, pv, rfl, hgv, htv, hvv, hdv, rfl⟩ := trodVars_one hV
  obtain ⟨a0, rfl, rfl, rfl, w0⟩ := open_string Tryz.underlying9 (hval 0 9 v0 rfl rfl) h0
  obtain ⟨a1, rfl, rfl, rfl, w1⟩ := open_string Tryz.underlying9 (hval 1 9 v1 rfl rfl) h1
  have k2 := h2
  have lt2 : ∀ x ∈ p2, x.block < W.heap.size := by obtain ⟨m, hm⟩ := k2; exact DataW.trod_lt m _ _ _ hm
  obtain ⟨a2, rfl, w2⟩ := open_paid (hval 2 29 v2 rfl rfl) h2
  clear hA0 hval0
  refine (walk_FnExactPaidCheck a0 a1 a2 W w0 w1 w2 (table_fnExactPaidCheck hL).1 (table_fnExactPaidCheck hL).2).mono fun e W' ⟨he, bel⟩ => ?_
  subst he
  obtain ⟨pv', hpv⟩ := varsBack laid_fnExactPaidCheck hgv htv hvv hdv bel
  exact ⟨_, rfl, _, _, _, [], _, pv', hW', trodAll_mk1 (shut_bool Tryz.underlying4 _), (trodAll_cons_mk (shut_string Tryz.underlying9 w0) (trodAll_cons_mk (shut_string Tryz.underlying9 w1) (trodAll_cons_mk (Below.trod laid_fnExactPaidCheck (by kernel_rfl) (of_decide_eq_true (by kernel_rfl)) k2 bel lt2) trodAll_mk0))), hpv, bel.frame _, fun h => by cases h⟩

theorem fnExactPaidCheck_said : Rows.FnExactPaidCheckSaid :=
  OpenClaim.holds_of_cond 3 Tryz.f3 rfl rfl rfl rfl rfl rfl rfl ⟨rfl, rfl, rfl, rfl, rfl⟩ rfl rfl rfl rfl rfl (by kernel_rfl) Tryz.func3 (by kernel_rfl)
    (of_decide_eq_true (by kernel_rfl)) (by unfold Func.isWrapper; first | (rw [if_pos (by decide +kernel)]; kernel_rfl) | (rw [if_neg (by decide +kernel)]; exact ⟨rfl, rfl⟩))
    (fun os started H enc _ F => by rw [OpenClaim.pre_eq_preRow]; exact lifted_fnExactPaidCheck os started H enc F)
theorem plain_fnExactPaidCheck (f : FuncId) (fn : Func) (hf : Tryz.pinned.checked.prog.funcNamed "loop.example/cordillera/laws.FnExactPaidCheck" = some f) (hfn : Tryz.pinned.checked.prog.funcs[f]? = some fn) :
    false = Tryz.pinned.checked.prog.looks [] ∧ ∀ (j : Nat) t, fn.params[j]? = some t → Tryz.pinned.checked.prog.wantsStandIn t = false := by
  obtain rfl : f = 3 := Option.some.inj ((show Tryz.prog.funcNamed "loop.example/cordillera/laws.FnExactPaidCheck" = some 3 by kernel_rfl).symm.trans hf) |>.symm
  obtain rfl : fn = Tryz.f3 := (Option.some.inj (Tryz.func3.symm.trans hfn)).symm
  refine ⟨by kernel_rfl, fun j t ht => ?_⟩
  rw [Tryz.params3] at ht
  have hall : ∀ t ∈ (#[9, 9, 29] : Array TypeId), Tryz.prog.wantsStandIn t = false := by
    intro t ht
    simp only [List.mem_toArray, List.mem_cons, List.not_mem_nil, or_false] at ht
    rcases ht with rfl | rfl | rfl <;> kernel_rfl
  exact hall t (Array.mem_of_getElem? ht)
theorem fnExactPaidCheck_holds : Rows.FnExactPaidCheckCardSaid :=
  Claim7.holds_tied_plain_at .later [] _ _ _ _ fnExactPaidCheck_said (fun _ h => by cases h) (by kernel_rfl) (fun _ h => by cases h) fnExactPaidCheck_row_tie rfl ⟨rfl, rfl⟩ (by kernel_rfl) rfl plain_fnExactPaidCheck (by kernel_rfl)
#print axioms fnExactPaidCheck_holds
end Go.Proofs.YtjeldedjhlicmaaGreatDoor

