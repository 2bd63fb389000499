/-
  Whether sums beside an item's way lead to a root: the model, the program.
-/
import Derived.Test.YtaahmbooagocgabDoorSideL
import Derived.Test.YtaahmbooagocgabDoorRootI
import Derived.Test.YtaahmbooagocgabDoorItemI
import Derived.Test.YtaahmbooagocgabDoorSumHeadI
import Derived.Test.YtaahmbooagocgabDoorHeadP
import Derived.Laws.Strings
set_option linter.unusedVariables false
namespace Go.Proofs.YtaahmbooagocgabDoor
open Go.RowKit Go.Deep

theorem sameB (a b : ByteArray) : (a.toList == b.toList) = decide (a = b) := by
  rw [Bool.eq_iff_iff, beq_iff_eq, decide_eq_true_eq, ByteArray.toList_eq, ByteArray.toList_eq]
  constructor
  · intro h
    exact ByteArray.ext (by simpa using h)
  · intro h
    rw [h]
def sideOkB (x : SideV) : Bool := isSum x.sum.data.toList
def sidesOkB (l : List SideV) : Bool := decide (l.length ≤ 8) && (List.range l.length).all fun i => sideOkB (l.getD i default)
theorem sidesOk_no {l : List SideV} (i : Nat) (hi : i < l.length) (h : sideOkB (l.getD i default) = false) : sidesOkB l = false := by
  have : ((List.range l.length).all fun i => sideOkB (l.getD i default)) = false := by
    rw [List.all_eq_false]
    exact ⟨i, List.mem_range.2 hi, by rw [h]; decide⟩
  rw [sidesOkB, this, Bool.and_false]
theorem sidesOk_long {l : List SideV} (h : ¬ l.length ≤ 8) : sidesOkB l = false := by rw [sidesOkB, decide_eq_false h, Bool.false_and]
theorem sidesOk_yes {l : List SideV} (h : l.length ≤ 8) (h2 : ∀ i, i < l.length → sideOkB (l.getD i default) = true) : sidesOkB l = true := by
  rw [sidesOkB, decide_eq_true h, Bool.true_and, List.all_eq_true]
  exact fun i hi => h2 i (List.mem_range.1 hi)
theorem sidesOk_at {l : List SideV} (h : sidesOkB l = true) : l.length ≤ 8 ∧ ∀ i, i < l.length → sideOkB (l.getD i default) = true := by
  rw [sidesOkB, Bool.and_eq_true, decide_eq_true_eq, List.all_eq_true] at h
  exact ⟨h.1, fun i hi => h.2 i (List.mem_range.2 hi)⟩
def stepS (s : ByteArray) (x : SideV) : ByteArray := if x.left = true then bothB x.sum s else bothB s x.sum
def wayTo (s : ByteArray) (l : List SideV) : Nat → ByteArray
  | 0 => s
  | k + 1 => stepS (wayTo s l k) (l.getD k default)
theorem wayTo_size {s : ByteArray} (hs : s.size = 16) (l : List SideV) : ∀ k, (wayTo s l k).size = 16
  | 0 => hs
  | k + 1 => by
    show (stepS _ _).size = 16
    unfold stepS
    split <;> exact bsum_size _
def rootCheckB (root item : ByteArray) (l : List SideV) : Bool := isItem item.data.toList && (sidesOkB l && decide (wayTo (rootItemB item) l l.length = root))

set_option maxHeartbeats 1000000 in
set_option maxRecDepth 100000 in
theorem implSidesOk (g n cap : Nat) (ps : List SideV) (w : World) (h : AtSide w g ps) (hn : n = ps.length) (hm : n ≤ 1073741824) :
    Calls Tryd.prog 39 #[.slice (some ⟨g, 0, none⟩) n cap] w fun e w' => e = .returned (.bool (sidesOkB ps)) ∧ Below w.heap.size w w' := by
  have HA : Hid (AtSide w g ps) := h
  have HN : Hid (n = ps.length) := hn
  clear h hn
  by_cases hl : (8 : Int) < (n : Int)
  · have HNO : Hid (sidesOkB ps = false) := sidesOk_long (by rw [← HN.out]; omega)
    go_enter Tryd.func39, Tryd.ntmps39
    go_wp2_with fail
    go_ret
    exact ⟨by rw [HNO.out]; rfl, Below.refl _ _⟩
  go_enter Tryd.func39, Tryd.ntmps39
  go_wp2_with fail
  go_loopw [10] (fun i wr => ∃ k : Nat, k ≤ n ∧ i = .int .i64 (k : Int) ∧ Hid (∀ q, q < k → sideOkB (ps.getD q default) = true) ∧ Hid (Below w.heap.size w wr)) (fun i _ => n - (intOf i).toNat)
  case atStart => exact ⟨0, by omega, rfl, fun q hq => by omega, Below.refl _ _⟩
  case round =>
    obtain ⟨k, hk, rfl, HS, HB⟩ := hrel
    by_cases hlt : k < n
    · have hkl : k < ps.length := by rw [← HN.out]; exact hlt
      have HAr : Hid (AtSide wr g ps) := HA.out.below HB.out HA.out.1
      have c0 := AtSide.c0 HAr.out k hkl
      have c1 := AtSide.c1 HAr.out k hkl
      have lk : (k : Int) < (n : Int) := by omega
      have HK : Hid (k + 1 ≤ n) := hlt
      have HNO : Hid (sideOkB (ps.getD k default) = false → sidesOkB ps = false) := fun h => sidesOk_no k hkl h
      have HNX : Hid (sideOkB (ps.getD k default) = true → ∀ q, q < k + 1 → sideOkB (ps.getD q default) = true) := by
        intro h q hq
        rcases Nat.lt_or_ge q k with h' | h'
        · exact HS.out q h'
        · obtain rfl : q = k := by omega
          exact h
      unfold sideOkB at HNO HNX
      generalize ps.getD k default = p at c0 c1 HNO HNX
      have hb : ∀ o, Below w.heap.size w (wr.alloc o) := fun o => HB.out.alloc HB.out.size o
      clear hkl
      cases hok : isSum p.sum.data.toList with
      | false =>
        have HN2 : Hid (sidesOkB ps = false) := HNO.out hok
        clear HNO HNX
        go_wp2_with (go_at_call 31; refine (implSumOk _ _).mono ?_; rintro e w1 ⟨rfl, rfl⟩)
        go_ret
        exact ⟨by rw [HN2.out]; rfl, hb _⟩
      | true =>
        have HN2 : Hid (∀ q, q < k + 1 → sideOkB (ps.getD q default) = true) := HNX.out hok
        clear HNO HNX
        go_wp2_with (go_at_call 31; refine (implSumOk _ _).mono ?_; rintro e w1 ⟨rfl, rfl⟩)
        go_roundw
        case rel => exact ⟨k + 1, HK.out, by go_num, HN2, hb _⟩
        case measure => have := HK.out; simp [intOf]; omega
    · have HN2 : Hid (sidesOkB ps = true) := sidesOk_yes (by rw [← HN.out]; omega) (fun i hi => HS.out i (by rw [← HN.out] at hi; omega))
      go_wp2_with fail
      go_ret
      exact ⟨by rw [HN2.out]; rfl, HB.out⟩

set_option maxHeartbeats 1000000 in
set_option maxRecDepth 100000 in
theorem implRootWay (g n cap : Nat) (w : World) :
    Calls Tryd.prog 40 #[.slice (some ⟨g, 0, none⟩) n cap] w fun e w' => e = .returned (.func (.func 69) #[] #[.pointer (some ⟨w.heap.size, 0, none⟩)]) ∧ w' = w.alloc (.cells #[.slice (some ⟨g, 0, none⟩) n cap] 37) := by
  go_enter Tryd.func40, Tryd.ntmps40
  go_wp2_with fail
  go_ret
  exact ⟨rfl, rfl⟩

set_option maxHeartbeats 1000000 in
set_option maxRecDepth 100000 in
theorem implWay (x g n cap : Nat) (r0 : ByteArray) (ps : List SideV) (w : World) (h : AtSide w g ps) (hx : w.cell? ⟨x, 0, none⟩ = some (.slice (some ⟨g, 0, none⟩) n cap)) (hn : n = ps.length) (hm : n ≤ 8) (hr : r0.size = 16) (hs : ∀ i, i < ps.length → (ps.getD i default).sum.size = 16) (hK : RowG w shaK) :
    Calls Tryd.prog 69 #[.string r0, .pointer (some ⟨x, 0, none⟩)] w fun e w' => e = .returned (.string (wayTo r0 ps ps.length)) ∧ Below w.heap.size w w' := by
  have HA : Hid (AtSide w g ps) := h
  have HN : Hid (n = ps.length) := hn
  have HK : Hid (RowG w shaK) := hK
  have HS : Hid (∀ i, i < ps.length → (ps.getD i default).sum.size = 16) := hs
  have HR : Hid (r0.size = 16) := hr
  rw [← hn]
  clear h hn hs hr hK
  go_enter Tryd.func69, Tryd.ntmps69
  go_wp2_with fail
  clear hx
  go_loopw [0, 8] (fun s i wr => ∃ (k : Nat) (t : ByteArray), k ≤ n ∧ i = .int .i64 (k : Int) ∧ s = .string t ∧ t.size = 16 ∧ Hid (t = wayTo r0 ps k) ∧ Hid (Below w.heap.size w wr)) (fun _ i _ => n - (intOf i).toNat)
  case atStart => exact ⟨0, r0, by omega, rfl, rfl, HR.out, rfl, Below.refl _ _⟩
  case round =>
    obtain ⟨k, t, hk, rfl, rfl, ht, HT, HB⟩ := hrel
    by_cases hlt : k < n
    · have hkl : k < ps.length := by rw [← HN.out]; exact hlt
      have HAr : Hid (AtSide wr g ps) := HA.out.below HB.out HA.out.1
      have c0 := AtSide.c0 HAr.out k hkl
      have c1 := AtSide.c1 HAr.out k hkl
      have hp16 := HS.out k hkl
      have lk : (k : Int) < (n : Int) := by omega
      have HK1 : Hid (k + 1 ≤ n) := hlt
      have HT2 : Hid (wayTo r0 ps (k + 1) = stepS t (ps.getD k default)) := by show _ = _; rw [HT.out]; rfl
      have HKr : Hid (∀ o, RowG (wr.alloc o) shaK) := fun o => HK.out.below (HB.out.alloc HB.out.size o) HK.out.lt
      generalize ps.getD k default = p at c0 c1 hp16 HT2
      obtain ⟨ps1, left⟩ := p
      dsimp only at c0 c1 hp16
      unfold stepS at HT2
      dsimp only at HT2
      clear hkl HT
      cases left with
      | true =>
        have hbt := fun w' hk => implRootBoth ps1 t w' hp16 ht hk
        have HT3 : Hid (bothB ps1 t = wayTo r0 ps (k + 1)) := by show _ = _; rw [HT2.out]; rfl
        have ht2 : (bothB ps1 t).size = 16 := bsum_size _
        clear HT2
        generalize bothB ps1 t = t2 at hbt HT3 ht2
        go_wp2_with fail
        refine (hbt _ (HKr.out _)).mono ?_
        rintro e w1 ⟨rfl, b1⟩
        have HB2 : Hid (Below w.heap.size w w1) := (HB.out.alloc HB.out.size _).trans (b1.mono (HB.out.alloc HB.out.size _).size)
        clear hbt b1 c0 c1 HKr HAr HB
        go_wp2_with fail
        go_roundw
        case rel => exact ⟨k + 1, t2, HK1.out, by go_num, rfl, ht2, HT3, HB2⟩
        case measure => have := HK1.out; simp [intOf]; omega
      | false =>
        have hbt := fun w' hk => implRootBoth t ps1 w' ht hp16 hk
        have HT3 : Hid (bothB t ps1 = wayTo r0 ps (k + 1)) := by show _ = _; rw [HT2.out]; rfl
        have ht2 : (bothB t ps1).size = 16 := bsum_size _
        clear HT2
        generalize bothB t ps1 = t2 at hbt HT3 ht2
        go_wp2_with fail
        refine (hbt _ (HKr.out _)).mono ?_
        rintro e w1 ⟨rfl, b1⟩
        have HB2 : Hid (Below w.heap.size w w1) := (HB.out.alloc HB.out.size _).trans (b1.mono (HB.out.alloc HB.out.size _).size)
        clear hbt b1 c0 c1 HKr HAr HB
        go_wp2_with fail
        go_roundw
        case rel => exact ⟨k + 1, t2, HK1.out, by go_num, rfl, ht2, HT3, HB2⟩
        case measure => have := HK1.out; simp [intOf]; omega
    · obtain rfl : k = n := by omega
      go_wp2_with fail
      go_ret
      exact ⟨by rw [← HT.out]; rfl, HB.out⟩

set_option maxHeartbeats 1000000 in
set_option maxRecDepth 100000 in
theorem implRootCheck (g n cap : Nat) (root item : ByteArray) (ps : List SideV) (w : World) (h : AtSide w g ps) (hn : n = ps.length) (hm : n ≤ 1073741824) (hK : RowG w shaK) :
    Calls Tryd.prog 17 #[.string root, .string item, .slice (some ⟨g, 0, none⟩) n cap] w fun e w' => e = .returned (.bool (rootCheckB root item ps)) ∧ Below w.heap.size w w' := by
  have HA : Hid (AtSide w g ps) := h
  have HN : Hid (n = ps.length) := hn
  have HK : Hid (RowG w shaK) := hK
  have hit := implItemOk item w
  have hso := fun w' h' => implSidesOk g n cap ps w' h' hn hm
  clear h hn hK
  cases hi : isItem item.data.toList with
  | false =>
    have HR : Hid (rootCheckB root item ps = false) := by show _ = _; rw [rootCheckB, hi, Bool.false_and]
    rw [hi] at hit
    go_enter Tryd.func17, Tryd.ntmps17
    go_wp2_with fail
    refine hit.mono ?_
    rintro e w1 ⟨rfl, rfl⟩
    go_wp2_with fail
    go_ret
    exact ⟨by rw [HR.out]; rfl, Below.refl _ _⟩
  | true =>
    cases hs : sidesOkB ps with
    | false =>
      have HR : Hid (rootCheckB root item ps = false) := by show _ = _; rw [rootCheckB, hs, Bool.false_and, Bool.and_false]
      rw [hi] at hit
      rw [hs] at hso
      go_enter Tryd.func17, Tryd.ntmps17
      go_wp2_with fail
      refine hit.mono ?_
      rintro e w1 ⟨rfl, rfl⟩
      go_wp2_with fail
      refine (hso _ HA.out).mono ?_
      rintro e w2 ⟨rfl, b2⟩
      go_wp2_with fail
      go_ret
      exact ⟨by rw [HR.out]; rfl, b2⟩
    | true =>
      rw [hi] at hit
      rw [hs] at hso
      obtain ⟨h8, hall⟩ := sidesOk_at hs
      have HS : Hid (∀ i, i < ps.length → (ps.getD i default).sum.size = 16) := fun i hi => sum_size (hall i hi)
      have hn8 : n ≤ 8 := by rw [HN.out]; exact h8
      have hiz := (isItem_size hi).2
      have hri := fun w' hk => implRootItem item w' (by omega) hk
      have hri16 : (rootItemB item).size = 16 := bsum_size _
      have HR : Hid (rootCheckB root item ps = decide (wayTo (rootItemB item) ps ps.length = root)) := by show _ = _; rw [rootCheckB, hi, hs]; rfl
      generalize rootItemB item = r0 at hri hri16 HR
      have HWY : Hid (∀ (x : Nat) w', AtSide w' g ps → w'.cell? ⟨x, 0, none⟩ = some (.slice (some ⟨g, 0, none⟩) n cap) → RowG w' shaK → Calls Tryd.prog 69 #[.string r0, .pointer (some ⟨x, 0, none⟩)] w' fun e w'' => e = .returned (.string (wayTo r0 ps ps.length)) ∧ Below w'.heap.size w' w'') := fun x w' h1 h2 h3 => implWay x g n cap r0 ps w' h1 h2 HN.out hn8 hri16 HS.out h3
      generalize wayTo r0 ps ps.length = T at HR HWY
      clear hall hi hs
      go_enter Tryd.func17, Tryd.ntmps17
      go_wp2_with fail
      refine hit.mono ?_
      rintro e w1 ⟨rfl, rfl⟩
      go_wp2_with fail
      refine (hso _ HA.out).mono ?_
      rintro e w2 ⟨rfl, b2⟩
      go_wp2_with fail
      refine (implRootWay g n cap w2).mono ?_
      rintro e w3 ⟨rfl, h3⟩
      have b3 : Below w.heap.size w w3 := by rw [h3]; exact b2.alloc b2.size _
      have X3 : w3.heap[w2.heap.size]? = some (.cells #[.slice (some ⟨g, 0, none⟩) n cap] 37 (0, 0)) := by rw [h3]; exact heap_alloc_new w2 _
      have l3 : w2.heap.size < w3.heap.size := by rw [h3]; simp
      clear h3
      have HX3 : Hid (w3.heap[w2.heap.size]? = some (.cells #[.slice (some ⟨g, 0, none⟩) n cap] 37 (0, 0))) := X3
      clear X3
      go_wp2_with fail
      refine (hri _ (HK.out.below b3 HK.out.lt)).mono ?_
      rintro e w4 ⟨rfl, b4⟩
      have b5 : Below w.heap.size w w4 := b3.trans (b4.mono b3.size)
      have X4 : w4.cell? ⟨w2.heap.size, 0, none⟩ = some (.slice (some ⟨g, 0, none⟩) n cap) := by
        rw [b4.cell (p := ⟨w2.heap.size, 0, none⟩) l3, Lib.cell_of_heap HX3.out]
        rfl
      have hwy := HWY.out w2.heap.size w4 (HA.out.below b5 HA.out.1) X4 (HK.out.below b5 HK.out.lt)
      clear X4
      go_wp2_with fail
      refine hwy.mono ?_
      rintro e w6 ⟨rfl, b6⟩
      go_wp2_with fail
      go_ret
      refine ⟨?_, b5.trans (b6.mono b5.size)⟩
      rw [HR.out]
      show Ending.returned (Value.bool (T.toList == root.toList)) = _
      rw [sameB]

end Go.Proofs.YtaahmbooagocgabDoor
