/-
  Whether sums beside an item's way lead to a root: the specification, the law.
-/
import Derived.Test.YtaahmbooagocgabDoorRootC
import Derived.Test.YtaahmbooagocgabDoorItemS
import Derived.Test.YtaahmbooagocgabDoorShaS5
import Derived.Test.YtaahmbooagocgabDoorSumHeadS
import Derived.Deep.RegionHeld3
set_option linter.unusedVariables false
namespace Go.Proofs.YtaahmbooagocgabDoor
open Go.RowKit Go.Deep

theorem bothX (a b : ByteArray) : ((⟨#[98, 111, 116, 104, 32]⟩ : ByteArray) ++ a ++ (⟨#[32]⟩ : ByteArray) ++ b).data.toList = [98, 111, 116, 104, 32] ++ a.data.toList ++ [32] ++ b.data.toList := by simp
theorem bothZ {a b : ByteArray} (ha : a.size = 16) (hb : b.size = 16) : ((⟨#[98, 111, 116, 104, 32]⟩ : ByteArray) ++ a ++ (⟨#[32]⟩ : ByteArray) ++ b).size ≤ 1073741824 := by
  simp only [ByteArray.size_append, ha, hb]
  have e1 : (⟨#[98, 111, 116, 104, 32]⟩ : ByteArray).size = 5 := rfl
  have e2 : (⟨#[32]⟩ : ByteArray).size = 1 := rfl
  omega
theorem itemX (a : ByteArray) : ((⟨#[105, 116, 101, 109, 32]⟩ : ByteArray) ++ a).data.toList = [105, 116, 101, 109, 32] ++ a.data.toList := by simp
theorem itemZ {a : ByteArray} (ha : a.size ≤ 1048576) : ((⟨#[105, 116, 101, 109, 32]⟩ : ByteArray) ++ a).size ≤ 1073741824 := by
  rw [ByteArray.size_append]
  have e1 : (⟨#[105, 116, 101, 109, 32]⟩ : ByteArray).size = 5 := rfl
  omega
theorem check_no {root item : ByteArray} {l : List SideV} (h : isItem item.data.toList = false ∨ sidesOkB l = false) : rootCheckB root item l = false := by
  unfold rootCheckB
  rcases h with h | h <;> rw [h] <;> simp

set_option maxHeartbeats 1000000 in
set_option maxRecDepth 100000 in
theorem specRootCheck (g n cap : Nat) (root item : ByteArray) (ps : List SideV) (w : World) (hit0 : item.size ≤ 1048576) (h : AtSide w g ps) (hn : n = ps.length) (hm : n ≤ 1073741824) (hz : ∀ i, i < ps.length → (ps.getD i default).sum.size ≤ maxLen) :
    Calls Tryd.prog 15 #[.string root, .string item, .slice (some ⟨g, 0, none⟩) n cap] w fun e w' => e = .returned (.bool (rootCheckB root item ps)) ∧ Below w.heap.size w w' := by
  have HA : Hid (AtSide w g ps) := h
  have HN : Hid (n = ps.length) := hn
  have HZ : Hid (∀ i, i < ps.length → (ps.getD i default).sum.size ≤ maxLen) := hz
  have hit := specItemOk item w (by unfold maxLen; omega)
  clear h hn hz
  cases hi : isItem item.data.toList with
  | false =>
    have HR : Hid (rootCheckB root item ps = false) := check_no (.inl hi)
    rw [hi] at hit
    go_enter Tryd.func15, Tryd.ntmps15
    go_wp2_with fail
    refine hit.mono ?_
    rintro e w1 ⟨rfl, rfl⟩
    go_wp2_with fail
    go_ret
    exact ⟨by rw [HR.out]; rfl, Below.refl _ _⟩
  | true =>
    rw [hi] at hit
    by_cases hl : (8 : Int) < (n : Int)
    · have HR : Hid (rootCheckB root item ps = false) := check_no (.inr (sidesOk_long (by rw [← HN.out]; omega)))
      go_enter Tryd.func15, Tryd.ntmps15
      go_wp2_with fail
      refine hit.mono ?_
      rintro e w1 ⟨rfl, rfl⟩
      go_wp2_with fail
      go_ret
      exact ⟨by rw [HR.out]; rfl, Below.refl _ _⟩
    have hsm := fun w' => specSum ((⟨#[105, 116, 101, 109, 32]⟩ : ByteArray) ++ item) w' (itemZ hit0)
    have e0 : (⟨(sumB ((⟨#[105, 116, 101, 109, 32]⟩ : ByteArray) ++ item).data.toList).toArray⟩ : ByteArray) = rootItemB item := by rw [itemX]; rfl
    rw [e0] at hsm
    have hri16 : (rootItemB item).size = 16 := bsum_size _
    have HR : Hid (sidesOkB ps = true → rootCheckB root item ps = decide (wayTo (rootItemB item) ps ps.length = root)) := by intro hs; rw [rootCheckB, hi, hs]; rfl
    have HRN : Hid (sidesOkB ps = false → rootCheckB root item ps = false) := fun hs => check_no (.inr hs)
    clear e0 hi
    generalize rootCheckB root item ps = RES at HR HRN ⊢
    generalize rootItemB item = r0 at hsm hri16 HR
    go_enter Tryd.func15, Tryd.ntmps15
    go_wp2_with fail
    refine hit.mono ?_
    rintro e w1 ⟨rfl, rfl⟩
    go_wp2_with fail
    refine (hsm _).mono ?_
    rintro e w2 ⟨rfl, b2⟩
    clear hit hsm
    go_wp2_with fail
    go_loopw [7, 8] (fun s i wr => ∃ (k : Nat) (t : ByteArray), k ≤ n ∧ i = .int .i64 (k : Int) ∧ s = .string t ∧ t.size = 16 ∧ Hid (t = wayTo r0 ps k) ∧ Hid (∀ q, q < k → sideOkB (ps.getD q default) = true) ∧ Hid (Below w.heap.size w wr)) (fun _ i _ => n - (intOf i).toNat)
    case atStart => exact ⟨0, r0, by omega, rfl, rfl, hri16, rfl, fun q hq => by omega, b2⟩
    case round =>
      clear b2
      obtain ⟨k, t, hk, rfl, rfl, ht, HT, HS, HB⟩ := hrel
      by_cases hlt : k < n
      · have hkl : k < ps.length := by rw [← HN.out]; exact hlt
        have HAr : Hid (AtSide wr g ps) := HA.out.below HB.out HA.out.1
        have c0 := AtSide.c0 HAr.out k hkl
        have c1 := AtSide.c1 HAr.out k hkl
        have hpz := HZ.out k hkl
        have lk : (k : Int) < (n : Int) := by omega
        have HK1 : Hid (k + 1 ≤ n) := hlt
        have HT2 : Hid (wayTo r0 ps (k + 1) = stepS t (ps.getD k default)) := by show _ = _; rw [HT.out]; rfl
        have HNO : Hid (sideOkB (ps.getD k default) = false → sidesOkB ps = false) := fun h => sidesOk_no k hkl h
        have HNX : Hid (sideOkB (ps.getD k default) = true → ∀ q, q < k + 1 → sideOkB (ps.getD q default) = true) := by
          intro h q hq
          rcases Nat.lt_or_ge q k with h' | h'
          · exact HS.out q h'
          · obtain rfl : q = k := by omega
            exact h
        unfold sideOkB at HNO HNX
        generalize ps.getD k default = p at c0 c1 hpz HT2 HNO HNX
        obtain ⟨ps1, left⟩ := p
        unfold stepS at HT2
        dsimp only at c0 c1 hpz HT2 HNO HNX
        clear hkl HT
        cases hok : isSum ps1.data.toList with
        | false =>
          have HR2 : Hid (RES = false) := HRN.out (HNO.out hok)
          clear HNO HNX HT2
          go_wp2_with (go_at_call 36; refine (specIsSum _ _ hpz).mono ?_; rintro e w3 ⟨rfl, rfl⟩)
          go_ret
          exact ⟨by rw [HR2.out]; rfl, HB.out⟩
        | true =>
          have HN2 : Hid (∀ q, q < k + 1 → sideOkB (ps.getD q default) = true) := HNX.out hok
          have hp16 : ps1.size = 16 := sum_size hok
          clear HNO HNX HS
          cases left with
          | true =>
            have hsm := fun w' => specSum ((⟨#[98, 111, 116, 104, 32]⟩ : ByteArray) ++ ps1 ++ (⟨#[32]⟩ : ByteArray) ++ t) w' (bothZ hp16 ht)
            have e0 : (⟨(sumB ((⟨#[98, 111, 116, 104, 32]⟩ : ByteArray) ++ ps1 ++ (⟨#[32]⟩ : ByteArray) ++ t).data.toList).toArray⟩ : ByteArray) = bothB ps1 t := by rw [bothX]; rfl
            rw [e0] at hsm
            have HT3 : Hid (bothB ps1 t = wayTo r0 ps (k + 1)) := by show _ = _; rw [HT2.out]; rfl
            have ht2 : (bothB ps1 t).size = 16 := bsum_size _
            have q1 : ¬ 9223372036854775807 < ps1.size + t.size + 6 := by omega
            clear HT2 e0
            generalize bothB ps1 t = t2 at hsm HT3 ht2
            go_wp2_with (go_at_call 36; refine (specIsSum _ _ hpz).mono ?_; rintro e w3 ⟨rfl, rfl⟩)
            refine (hsm _).mono ?_
            rintro e w4 ⟨rfl, b4⟩
            have HB2 : Hid (Below w.heap.size w w4) := HB.out.trans (b4.mono HB.out.size)
            clear hsm b4 c0 c1 HAr HB
            go_wp2_with fail
            go_roundw
            case rel => exact ⟨k + 1, t2, HK1.out, by go_num, rfl, ht2, HT3, HN2, HB2⟩
            case measure => have := HK1.out; simp [intOf]; omega
          | false =>
            have hsm := fun w' => specSum ((⟨#[98, 111, 116, 104, 32]⟩ : ByteArray) ++ t ++ (⟨#[32]⟩ : ByteArray) ++ ps1) w' (bothZ ht hp16)
            have e0 : (⟨(sumB ((⟨#[98, 111, 116, 104, 32]⟩ : ByteArray) ++ t ++ (⟨#[32]⟩ : ByteArray) ++ ps1).data.toList).toArray⟩ : ByteArray) = bothB t ps1 := by rw [bothX]; rfl
            rw [e0] at hsm
            have HT3 : Hid (bothB t ps1 = wayTo r0 ps (k + 1)) := by show _ = _; rw [HT2.out]; rfl
            have ht2 : (bothB t ps1).size = 16 := bsum_size _
            have q1 : ¬ 9223372036854775807 < t.size + ps1.size + 6 := by omega
            clear HT2 e0
            generalize bothB t ps1 = t2 at hsm HT3 ht2
            go_wp2_with (go_at_call 36; refine (specIsSum _ _ hpz).mono ?_; rintro e w3 ⟨rfl, rfl⟩)
            refine (hsm _).mono ?_
            rintro e w4 ⟨rfl, b4⟩
            have HB2 : Hid (Below w.heap.size w w4) := HB.out.trans (b4.mono HB.out.size)
            clear hsm b4 c0 c1 HAr HB
            go_wp2_with fail
            go_roundw
            case rel => exact ⟨k + 1, t2, HK1.out, by go_num, rfl, ht2, HT3, HN2, HB2⟩
            case measure => have := HK1.out; simp [intOf]; omega
      · obtain rfl : k = n := by omega
        have HR2 : Hid (RES = decide (t = root)) := by
          show _ = _
          rw [HR.out (sidesOk_yes (by rw [← HN.out]; omega) (fun i hi => HS.out i (by rw [HN.out]; exact hi))), ← HN.out, ← HT.out]
        go_wp2_with fail
        go_ret
        refine ⟨?_, HB.out⟩
        rw [HR2.out]
        show Ending.returned (Value.bool (t.toList == root.toList)) = _
        rw [sameB]

set_option maxHeartbeats 1000000 in
set_option maxRecDepth 100000 in
theorem walk_FnExactRootCheck (root item : ByteArray) (a2 : Option Addr) (len2 cap2 : Nat) (z2 : List SideV) (w : World) (hr : root.size ≤ maxLen) (hi : item.size ≤ maxLen) (h2 : IsSides w a2 len2 cap2 z2) (hK : RowG w shaK) :
    Calls Tryd.prog 5 #[.string root, .string item, .slice a2 len2 cap2] w fun e w' => e = .returned (.bool true) ∧ Below w.heap.size w w' := by
  have H0 : Hid (IsSides w a2 len2 cap2 z2) := h2
  have HK : Hid (RowG w shaK) := hK
  have HLn : Hid (len2 = z2.length) := h2.len.symm
  clear h2 hK
  by_cases hl1 : (1048576 : Int) < (root.size : Int)
  · go_enter Tryd.func5, Tryd.ntmps5
    go_wp2_with fail
    go_ret
    exact ⟨rfl, Below.refl _ _⟩
  by_cases hl2 : (1048576 : Int) < (item.size : Int)
  · go_enter Tryd.func5, Tryd.ntmps5
    go_wp2_with fail
    go_ret
    exact ⟨rfl, Below.refl _ _⟩
  have hit0 : item.size ≤ 1048576 := by omega
  go_enter Tryd.func5, Tryd.ntmps5
  go_wp2_with fail
  refine (szSides a2 len2 cap2 z2 w H0.out).mono ?_
  rintro e w0 ⟨b0, rfl | ⟨r, rfl, hr2, hl3, hsm⟩⟩
  · go_wp2_with fail
    go_ret
    exact ⟨rfl, b0⟩
  have HZ : Hid (∀ i, i < z2.length → (z2.getD i default).sum.size ≤ maxLen) := by
    intro i hi
    have := hsm i (by rw [HLn.out]; exact hi)
    unfold smallSide at this
    unfold maxLen
    omega
  clear hsm
  have hl4 : len2 ≤ 1073741824 := by omega
  have hr0 : ¬ (r : Int) < 0 := by omega
  go_wp2_with fail
  refine (toSides a2 len2 cap2 z2 _ w H0.out b0 hl3).mono ?_
  rintro e w1 ⟨rfl, r1, b1⟩
  have HB1 : Hid (Below w.heap.size w w1) := b0.trans (b1.mono b0.size)
  go_wp2_with fail
  refine (specRootCheck w0.heap.size len2 len2 root item z2 _ hit0 (r1.at 2 enSide_len) HLn.out hl4 HZ.out).mono ?_
  rintro e w2 ⟨rfl, b2⟩
  have HB2 : Hid (Below w.heap.size w w2) := HB1.out.trans (b2.mono HB1.out.size)
  clear r1 b1 b2 b0 HB1
  have HI : Hid (∀ w', AtSide w' w2.heap.size z2 → RowG w' shaK → Calls Tryd.prog 17 #[.string root, .string item, .slice (some ⟨w2.heap.size, 0, none⟩) len2 len2] w' fun e w'' => e = .returned (.bool (rootCheckB root item z2)) ∧ Below w'.heap.size w' w'') := fun w' h1 h3 => implRootCheck w2.heap.size len2 len2 root item z2 w' h1 HLn.out hl4 h3
  generalize rootCheckB root item z2 = R at HI ⊢
  go_wp2_with fail
  refine (toSides a2 len2 cap2 z2 _ w H0.out HB2.out hl3).mono ?_
  rintro e w3 ⟨rfl, r3, b3⟩
  have HR3 : Hid (RowSide w3 w2.heap.size z2) := r3
  have HB3 : Hid (Below w.heap.size w w3) := HB2.out.trans (b3.mono HB2.out.size)
  clear r3 b3
  go_wp2_with fail
  refine (HI.out _ (HR3.out.at 2 enSide_len) (HK.out.below HB3.out HK.out.lt)).mono ?_
  rintro e w4 ⟨rfl, b4⟩
  have HR4 : Hid (RowSide w4 w2.heap.size z2) := HR3.out.below b4 HR3.out.lt
  have HB4 : Hid (Below w.heap.size w w4) := HB3.out.trans (b4.mono HB3.out.size)
  clear b4 HI
  cases R <;>
  · go_wp2_with fail
    refine (toSides a2 len2 cap2 z2 _ w H0.out HB4.out hl3).mono ?_
    rintro e w5 ⟨rfl, r5, b5⟩
    have HR5 : Hid (RowSide w5 w4.heap.size z2) := r5
    have HR45 : Hid (RowSide w5 w2.heap.size z2) := HR4.out.below b5 HR4.out.lt
    have HB5 : Hid (Below w.heap.size w w5) := HB4.out.trans (b5.mono HB4.out.size)
    clear r5 b5
    go_wp2_with fail
    refine (eqSides w2.heap.size w4.heap.size len2 len2 len2 z2 _ (HR45.out.at 2 enSide_len) (HR5.out.at 2 enSide_len) HLn.out hl4).mono ?_
    rintro e w6 ⟨rfl, b6⟩
    go_wp2_with fail
    go_ret
    exact ⟨rfl, HB5.out.trans (b6.mono HB5.out.size)⟩

end Go.Proofs.YtaahmbooagocgabDoor
