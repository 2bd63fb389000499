/-
  At every block the program's BlockFilter answers what the specification answers; the block stands; no condition.
-/
import Derived.Test.YtgnnfljobgbpbabGreatDoorPart1
import Derived.Test.YtgnnfljobgbpbabGreatDoorPart2
import Derived.Test.YtgnnfljobgbpbabGreatDoorPart3
import Derived.Test.YtgnnfljobgbpbabGreatDoorPart4
import Derived.Test.YtgnnfljobgbpbabGreatDoorPart5
import Derived.Test.YtgnnfljobgbpbabGreatDoorPart6
import Derived.Test.YtgnnfljobgbpbabGreatDoorPart7
import Derived.Test.YtgnnfljobgbpbabGreatDoorPart8
import Derived.Test.YtgnnfljobgbpbabGreatDoorCards
import Derived.Test.YtgnnfljobgbpbabGreatDoorTie
import Derived.WalkKit
import Derived.ProofKit
import Derived.OpenShut
import Derived.ShutString
import Derived.ChangeOld
import Derived.ChangeVars
import Derived.Below
import Derived.Carry
import Derived.Deep.DeepHandedRow
import Derived.Lib.LaidTab
set_option linter.unusedVariables false
namespace Go.Proofs.YtgnnfljobgbpbabGreatDoor
open Go.RowKit Go.Deep

def blockFilter (h : HeadV) (ss : List ByteArray) : List UInt8 := if blockOkB h ss = true then filterB (sumB (headX h)) ss else []
theorem blockOk_parts {h : HeadV} {ss : List ByteArray} (hb : blockOkB h ss = true) : headOkB h = true ∧ itemsOkB ss = true := by
  simp only [blockOkB, headMeets, Bool.and_eq_true] at hb
  exact ⟨hb.1.1, hb.2.2.1⟩

set_option maxHeartbeats 1000000 in
set_option maxRecDepth 100000 in
theorem implBlockFilter (h : HeadV) (g n cap : Nat) (ss : List ByteArray) (w : World) (h0 : AtS w g ss) (hn : n = ss.length) (hK : RowG w shaK) (hP : TabP w) :
    Calls Tryz.prog 7 #[blockVal h (.slice (some ⟨g, 0, none⟩) n cap)] w fun e w' => e = .returned (.string ⟨(blockFilter h ss).toArray⟩) ∧ Below w.heap.size w w' := by
  have H0 : Hid (AtS w g ss) := h0
  have HK : Hid (RowG w shaK) := hK
  have HP : Hid (∀ w', Below w.heap.size w w' → TabP w') := fun w' hb => TabP.below hP hb (Nat.le_refl _)
  have hbo := fun w' h' hk hp => implBlockOk h g n cap ss w' h' hn hk hp
  have hhs := fun w' hk hp => implHeadSum h w' hk hp
  have hfo := fun k w' h' hk => implFilterOf g n cap ss k w' h' hn hk
  unfold headVal at hhs
  unfold blockVal at hbo ⊢
  clear h0 hn hK hP
  have C0 : Hid (CBk (w.alloc (.cells #[.string h.prev, .string h.root, .int .i64 h.time, .int .i64 h.diff, .int .i64 h.nonce, .slice (some ⟨g, 0, none⟩) n cap] 31)) w.heap.size 31 #[.string h.prev, .string h.root, .int .i64 h.time, .int .i64 h.diff, .int .i64 h.nonce, .slice (some ⟨g, 0, none⟩) n cap]) := CBk.new w 31 #[.string h.prev, .string h.root, .int .i64 h.time, .int .i64 h.diff, .int .i64 h.nonce, .slice (some ⟨g, 0, none⟩) n cap]
  have L0 : Hid (Below w.heap.size w (w.alloc (.cells #[.string h.prev, .string h.root, .int .i64 h.time, .int .i64 h.diff, .int .i64 h.nonce, .slice (some ⟨g, 0, none⟩) n cap] 31))) := (Below.refl _ w).alloc (Nat.le_refl _) _
  cases hb : blockOkB h ss with
  | false =>
    have HE : Hid (blockFilter h ss = []) := by show _ = _; rw [blockFilter, hb]; rfl
    rw [hb] at hbo
    clear hhs hfo
    go_enter Tryz.func7, Tryz.ntmps7
    go_wp2_with fail
    refine (hbo _ (H0.out.below L0.out H0.out.1) (HK.out.below L0.out HK.out.lt) (HP.out _ L0.out)).mono ?_
    rintro e w1 ⟨rfl, b1⟩
    go_wp2_with fail
    go_ret
    exact ⟨by rw [HE.out]; rfl, L0.out.trans (b1.mono L0.out.size)⟩
  | true =>
    have hok := (blockOk_parts hb).1
    have HE : Hid (filterOf (sumB (headX h)) ss = blockFilter h ss) := by show _ = _; rw [blockFilter, if_pos hb, filterOf_yes (isSum_sumB _) (blockOk_parts hb).2]
    rw [headSum_yes hok] at hhs
    rw [hb] at hbo
    have hfo := hfo ⟨(sumB (headX h)).toArray⟩
    rw [show (⟨(sumB (headX h)).toArray⟩ : ByteArray).data.toList = sumB (headX h) from rfl, HE.out] at hfo
    generalize sumB (headX h) = X at hhs hfo
    clear HE hok hb
    generalize blockFilter h ss = R at hfo
    go_enter Tryz.func7, Tryz.ntmps7
    go_wp2_with fail
    refine (hbo _ (H0.out.below L0.out H0.out.1) (HK.out.below L0.out HK.out.lt) (HP.out _ L0.out)).mono ?_
    rintro e w1 ⟨rfl, b1⟩
    have C1 : Hid (CBk w1 w.heap.size 31 #[.string h.prev, .string h.root, .int .i64 h.time, .int .i64 h.diff, .int .i64 h.nonce, .slice (some ⟨g, 0, none⟩) n cap]) := C0.out.call b1
    have L1 : Hid (Below w.heap.size w w1) := L0.out.trans (b1.mono L0.out.size)
    clear C0 L0 b1 hbo
    go_wp2_with fail
    go_region_held3 (fun w' => w'.cell? ⟨w.heap.size, 0, none⟩ = some (.string h.prev) ∧ w'.cell? ⟨w.heap.size, 1, none⟩ = some (.string h.root) ∧ w'.cell? ⟨w.heap.size, 2, none⟩ = some (.int .i64 h.time) ∧ w'.cell? ⟨w.heap.size, 3, none⟩ = some (.int .i64 h.diff) ∧ w'.cell? ⟨w.heap.size, 4, none⟩ = some (.int .i64 h.nonce) ∧ w'.cell? ⟨w.heap.size, 5, none⟩ = some (.slice (some ⟨g, 0, none⟩) n cap))
      (first | exact C1.out.drew.out6 | exact C2.out.out6 | exact C3.out.out6)
      (first
        | (go_at_call 17; refine (hhs _ (HK.out.below L1.out.drew HK.out.lt) (HP.out _ L1.out.drew)).mono ?_; rintro e w2 ⟨rfl, b2⟩; have L2 : Hid (Below w.heap.size w w2) := L1.out.drew.trans (b2.mono L1.out.size); have C2 : Hid (CBk w2 w.heap.size 31 #[.string h.prev, .string h.root, .int .i64 h.time, .int .i64 h.diff, .int .i64 h.nonce, .slice (some ⟨g, 0, none⟩) n cap]) := C1.out.drew.call b2)
        | (go_at_call 16; refine (hfo _ (H0.out.below L2.out H0.out.1) (HK.out.below L2.out HK.out.lt)).mono ?_; rintro e w3 ⟨rfl, b3⟩; have L3 : Hid (Below w.heap.size w w3) := L2.out.trans (b3.mono L2.out.size); have C3 : Hid (CBk w3 w.heap.size 31 #[.string h.prev, .string h.root, .int .i64 h.time, .int .i64 h.diff, .int .i64 h.nonce, .slice (some ⟨g, 0, none⟩) n cap]) := C2.out.call b3))
    go_wp2_with fail
    go_ret
    exact ⟨rfl, L3.out⟩

set_option maxHeartbeats 1000000 in
set_option maxRecDepth 100000 in
theorem specL3Filter (h : HeadV) (g n cap : Nat) (ss : List ByteArray) (w : World) (h0 : AtS w g ss) (hn : n = ss.length) (hok : headOkB h = true) (hit : itemsOkB ss = true) :
    Calls Tryz.prog 12 #[blockVal h (.slice (some ⟨g, 0, none⟩) n cap)] w fun e w' => e = .returned (.string ⟨(filterB (sumB (headX h)) ss).toArray⟩) ∧ Below w.heap.size w w' := by
  have H0 : Hid (AtS w g ss) := h0
  have hhs := fun w' => specL3Sum h w' hok
  have hfo := fun w' h' => specFilter g n cap ss ⟨(sumB (headX h)).toArray⟩ w' h' hn (isSum_sumB _) hit
  rw [show (⟨(sumB (headX h)).toArray⟩ : ByteArray).data.toList = sumB (headX h) from rfl] at hfo
  generalize filterB (sumB (headX h)) ss = R at hfo ⊢
  generalize sumB (headX h) = X at hhs hfo
  unfold headVal at hhs
  unfold blockVal
  clear h0 hn hok hit
  have C0 : Hid (CBk (w.alloc (.cells #[.string h.prev, .string h.root, .int .i64 h.time, .int .i64 h.diff, .int .i64 h.nonce, .slice (some ⟨g, 0, none⟩) n cap] 31)) w.heap.size 31 #[.string h.prev, .string h.root, .int .i64 h.time, .int .i64 h.diff, .int .i64 h.nonce, .slice (some ⟨g, 0, none⟩) n cap]) := CBk.new w 31 #[.string h.prev, .string h.root, .int .i64 h.time, .int .i64 h.diff, .int .i64 h.nonce, .slice (some ⟨g, 0, none⟩) n cap]
  have L0 : Hid (Below w.heap.size w (w.alloc (.cells #[.string h.prev, .string h.root, .int .i64 h.time, .int .i64 h.diff, .int .i64 h.nonce, .slice (some ⟨g, 0, none⟩) n cap] 31))) := (Below.refl _ w).alloc (Nat.le_refl _) _
  go_enter Tryz.func12, Tryz.ntmps12
  go_wp2_with fail
  go_region_held3 (fun w' => w'.cell? ⟨w.heap.size, 0, none⟩ = some (.string h.prev) ∧ w'.cell? ⟨w.heap.size, 1, none⟩ = some (.string h.root) ∧ w'.cell? ⟨w.heap.size, 2, none⟩ = some (.int .i64 h.time) ∧ w'.cell? ⟨w.heap.size, 3, none⟩ = some (.int .i64 h.diff) ∧ w'.cell? ⟨w.heap.size, 4, none⟩ = some (.int .i64 h.nonce) ∧ w'.cell? ⟨w.heap.size, 5, none⟩ = some (.slice (some ⟨g, 0, none⟩) n cap))
    (first | exact C0.out.drew.out6 | exact C2.out.out6 | exact C3.out.out6)
    (first
      | (go_at_call 25; refine (hhs _).mono ?_; rintro e w2 ⟨rfl, b2⟩; have L2 : Hid (Below w.heap.size w w2) := L0.out.drew.trans (b2.mono L0.out.size); have C2 : Hid (CBk w2 w.heap.size 31 #[.string h.prev, .string h.root, .int .i64 h.time, .int .i64 h.diff, .int .i64 h.nonce, .slice (some ⟨g, 0, none⟩) n cap]) := C0.out.drew.call b2)
      | (go_at_call 24; refine (hfo _ (H0.out.below L2.out H0.out.1)).mono ?_; rintro e w3 ⟨rfl, b3⟩; have L3 : Hid (Below w.heap.size w w3) := L2.out.trans (b3.mono L2.out.size); have C3 : Hid (CBk w3 w.heap.size 31 #[.string h.prev, .string h.root, .int .i64 h.time, .int .i64 h.diff, .int .i64 h.nonce, .slice (some ⟨g, 0, none⟩) n cap]) := C2.out.call b3))
  go_wp2_with fail
  go_ret
  exact ⟨rfl, L3.out⟩

set_option maxHeartbeats 1000000 in
set_option maxRecDepth 100000 in
theorem specBlockFilter (h : HeadV) (g n cap : Nat) (ss : List ByteArray) (w : World) (h0 : AtS w g ss) (hn : n = ss.length) (hp : h.prev.size ≤ maxLen) (hr : h.root.size ≤ maxLen) (hm1 : n ≤ 1048576) (hs : ∀ i, i < ss.length → (ss.getD i ByteArray.empty).size ≤ 1048576) :
    Calls Tryz.prog 5 #[blockVal h (.slice (some ⟨g, 0, none⟩) n cap)] w fun e w' => e = .returned (.string ⟨(blockFilter h ss).toArray⟩) ∧ Below w.heap.size w w' := by
  have H0 : Hid (AtS w g ss) := h0
  have hsp := fun w' h' => specL3BlockOk h g n cap ss w' h' hn hp hr hm1 hs
  have hsf := fun w' h' => specL3Filter h g n cap ss w' h' hn
  unfold blockVal at hsp hsf ⊢
  clear h0 hs hp hr hm1 hn
  have C0 : Hid (CBk (w.alloc (.cells #[.string h.prev, .string h.root, .int .i64 h.time, .int .i64 h.diff, .int .i64 h.nonce, .slice (some ⟨g, 0, none⟩) n cap] 31)) w.heap.size 31 #[.string h.prev, .string h.root, .int .i64 h.time, .int .i64 h.diff, .int .i64 h.nonce, .slice (some ⟨g, 0, none⟩) n cap]) := CBk.new w 31 #[.string h.prev, .string h.root, .int .i64 h.time, .int .i64 h.diff, .int .i64 h.nonce, .slice (some ⟨g, 0, none⟩) n cap]
  have L0 : Hid (Below w.heap.size w (w.alloc (.cells #[.string h.prev, .string h.root, .int .i64 h.time, .int .i64 h.diff, .int .i64 h.nonce, .slice (some ⟨g, 0, none⟩) n cap] 31))) := (Below.refl _ w).alloc (Nat.le_refl _) _
  cases hb : blockOkB h ss with
  | false =>
    have HE : Hid (blockFilter h ss = []) := by show _ = _; rw [blockFilter, hb]; rfl
    rw [hb] at hsp
    clear hsf
    go_enter Tryz.func5, Tryz.ntmps5
    go_wp2_with fail
    refine (hsp _ (H0.out.below L0.out H0.out.1)).mono ?_
    rintro e w1 ⟨rfl, b1⟩
    go_wp2_with fail
    go_ret
    exact ⟨by rw [HE.out]; rfl, L0.out.trans (b1.mono L0.out.size)⟩
  | true =>
    have HE : Hid (filterB (sumB (headX h)) ss = blockFilter h ss) := by show _ = _; rw [blockFilter, if_pos hb]
    have hsf := fun w' h' => hsf w' h' (blockOk_parts hb).1 (blockOk_parts hb).2
    rw [HE.out] at hsf
    rw [hb] at hsp
    clear HE hb
    generalize blockFilter h ss = R at hsf ⊢
    go_enter Tryz.func5, Tryz.ntmps5
    go_wp2_with fail
    refine (hsp _ (H0.out.below L0.out H0.out.1)).mono ?_
    rintro e w1 ⟨rfl, b1⟩
    have C1 : Hid (CBk w1 w.heap.size 31 #[.string h.prev, .string h.root, .int .i64 h.time, .int .i64 h.diff, .int .i64 h.nonce, .slice (some ⟨g, 0, none⟩) n cap]) := C0.out.call b1
    have L1 : Hid (Below w.heap.size w w1) := L0.out.trans (b1.mono L0.out.size)
    clear C0 L0 b1 hsp
    obtain ⟨c0, c1, c2, c3, c4, c5, _⟩ := C1.out.six
    go_wp2_with fail
    refine (hsf _ (H0.out.below L1.out H0.out.1)).mono ?_
    rintro e w2 ⟨rfl, b2⟩
    go_wp2_with fail
    go_ret
    exact ⟨rfl, L1.out.trans (b2.mono L1.out.size)⟩

set_option maxHeartbeats 1000000 in
set_option maxRecDepth 100000 in
theorem walk_FnExactBlockFilter (h : HeadV) (a : Option Addr) (len cap : Nat) (zs : List ByteArray) (w : World) (hw : wfHead h) (h0 : IsTexts w a len cap zs) (hK : RowG w shaK) (hP : TabP w) :
    Calls Tryz.prog 3 #[blockVal h (.slice a len cap)] w fun e w' => e = .returned (.bool true) ∧ Below w.heap.size w w' := by
  have HP : Hid (∀ w', Below w.heap.size w w' → TabP w') := fun w' hb => TabP.below hP hb (Nat.le_refl _)
  have HK : Hid (RowG w shaK) := hK
  have HLn : Hid (len = (zs.take len).length) := h0.len
  have H0 : Hid (IsTexts w a len cap zs) := h0
  have HIT : Hid (∀ w', Below w.heap.size w w' → IsTexts w' a len cap zs) := by
    intro w' hb
    rcases h0 with h1 | ⟨x, hx, h1, h2, h3, h4, h5⟩
    · exact .inl h1
    · refine .inr ⟨x, hx, h1, h2, h3, fun i hi => ?_, h5⟩
      have := h4 i hi
      rw [← this]
      exact hb.cell (cell_lt this)
  have HSZ : Hid (∀ w1, Below w.heap.size w w1 → Calls Tryz.prog 4 #[blockVal h (.slice a len cap), .int .i64 1048576] w1 fun e w' => Below w1.heap.size w1 w' ∧ (e = .returned (.int .i64 (-1)) ∨ (SzOk zs len e ∧ smallHead h))) := fun w1 hb => szBlock1 h a len cap zs w1 hw (HIT.out w1 hb)
  have HTO : Hid (len ≤ 1048576 → ∀ w1, Below w.heap.size w w1 → Calls Tryz.prog 6 #[blockVal h (.slice a len cap)] w1 fun e w' => BackB h len zs w1 e w') := fun hn w1 hb => toBlock1 h a len cap zs w1 w H0.out hb hn
  have HSP : Hid (∀ (g : Nat) w1, smallHead h → len ≤ 1048576 → (∀ i, i < (zs.take len).length → ((zs.take len).getD i ByteArray.empty).size ≤ 1048576) → AtS w1 g (zs.take len) → Calls Tryz.prog 5 #[blockVal h (.slice (some ⟨g, 0, none⟩) len len)] w1 fun e w' => e = .returned (.string ⟨(blockFilter h (zs.take len)).toArray⟩) ∧ Below w1.heap.size w1 w') := fun g w1 hs h1 h2 h3 => specBlockFilter h g len len (zs.take len) w1 h3 HLn.out (by have := hs.1; unfold maxLen; omega) (by have := hs.2; unfold maxLen; omega) h1 h2
  have HIM : Hid (∀ (g : Nat) w1, AtS w1 g (zs.take len) → RowG w1 shaK → TabP w1 → Calls Tryz.prog 7 #[blockVal h (.slice (some ⟨g, 0, none⟩) len len)] w1 fun e w' => e = .returned (.string ⟨(blockFilter h (zs.take len)).toArray⟩) ∧ Below w1.heap.size w1 w') := fun g w1 h1 h2 h3 => implBlockFilter h g len len (zs.take len) w1 h1 HLn.out h2 h3
  have HEQ : Hid (∀ (g1 g2 : Nat) w1, len ≤ 1048576 → AtS w1 g1 (zs.take len) → AtS w1 g2 (zs.take len) → Calls Tryz.prog 8 #[blockVal h (.slice (some ⟨g1, 0, none⟩) len len), blockVal h (.slice (some ⟨g2, 0, none⟩) len len)] w1 fun e w' => e = .returned (.bool true) ∧ Below w1.heap.size w1 w') := fun g1 g2 w1 hl h1 h2 => eqBlock1 h g1 g2 len len len (zs.take len) w1 h1 h2 HLn.out (by omega)
  clear h0 hw hK hP
  generalize blockFilter h (zs.take len) = R at HSP HIM
  unfold blockVal at HSZ HTO HSP HIM HEQ ⊢
  have C0 : Hid (CBk _ w.heap.size 26 #[.string h.prev, .string h.root, .int .i64 h.time, .int .i64 h.diff, .int .i64 h.nonce, .slice a len cap]) := CBk.new w 26 #[.string h.prev, .string h.root, .int .i64 h.time, .int .i64 h.diff, .int .i64 h.nonce, .slice a len cap]
  have L0 : Hid (Below w.heap.size w (w.alloc (.cells #[.string h.prev, .string h.root, .int .i64 h.time, .int .i64 h.diff, .int .i64 h.nonce, .slice a len cap] 26))) := (Below.refl _ w).alloc (Nat.le_refl _) _
  go_enter Tryz.func3, Tryz.ntmps3
  go_wp2_with fail
  refine (HSZ.out _ L0.out).mono ?_
  rintro e w1 ⟨b1, hsz⟩
  have L1 : Hid (Below w.heap.size w w1) := L0.out.trans (b1.mono L0.out.size)
  have C1 : Hid (CBk w1 w.heap.size 26 #[.string h.prev, .string h.root, .int .i64 h.time, .int .i64 h.diff, .int .i64 h.nonce, .slice a len cap]) := C0.out.call b1
  clear C0 L0 b1 HSZ
  rcases hsz with rfl | ⟨rfl | ⟨r, rfl, hl2, hsz⟩, hsm⟩
  · go_wp2_with fail
    go_ret
    exact ⟨rfl, L1.out⟩
  · go_wp2_with fail
    go_ret
    exact ⟨rfl, L1.out⟩
  have HSM : Hid (smallHead h) := hsm
  have HZ : Hid (∀ i, i < (zs.take len).length → ((zs.take len).getD i ByteArray.empty).size ≤ 1048576) := by
    intro i hi
    have hil : i < len := by rw [HLn.out]; exact hi
    have := hsz i hil
    rw [List.getD_eq_getElem?_getD, List.getElem?_take_of_lt hil, ← List.getD_eq_getElem?_getD]
    exact this
  clear hsz hsm
  have hr0 : ¬ (r : Int) < 0 := by omega
  obtain ⟨c0, c1, c2, c3, c4, c5, _⟩ := C1.out.six
  go_wp2_with fail
  refine (HTO.out hl2 _ L1.out).mono ?_
  rintro e w2 ⟨g, rfl, r2, hg, b2⟩
  have L2 : Hid (Below w.heap.size w w2) := L1.out.trans (b2.mono L1.out.size)
  have C2 : Hid (CBk w2 w.heap.size 26 #[.string h.prev, .string h.root, .int .i64 h.time, .int .i64 h.diff, .int .i64 h.nonce, .slice a len cap]) := C1.out.call b2
  have hsp := HSP.out g w2 HSM.out hl2 HZ.out r2.at
  clear c0 c1 c2 c3 c4 c5 C1 b2 r2
  unfold blockVal
  go_wp2_with fail
  refine hsp.mono ?_
  rintro e w3 ⟨rfl, b3⟩
  have L3 : Hid (Below w.heap.size w w3) := L2.out.trans (b3.mono L2.out.size)
  have C3 : Hid (CBk w3 w.heap.size 26 #[.string h.prev, .string h.root, .int .i64 h.time, .int .i64 h.diff, .int .i64 h.nonce, .slice a len cap]) := C2.out.call b3
  obtain ⟨c0, c1, c2, c3, c4, c5, _⟩ := C3.out.six
  clear hsp b3 C2 L2
  go_wp2_with fail
  refine (HTO.out hl2 _ L3.out).mono ?_
  rintro e w4 ⟨g4, rfl, r4, hg4, b4⟩
  have L4 : Hid (Below w.heap.size w w4) := L3.out.trans (b4.mono L3.out.size)
  have C4 : Hid (CBk w4 w.heap.size 26 #[.string h.prev, .string h.root, .int .i64 h.time, .int .i64 h.diff, .int .i64 h.nonce, .slice a len cap]) := C3.out.call b4
  have R4 : Hid (RowS w4 g4 (zs.take len)) := r4
  clear c0 c1 c2 c3 c4 c5 C3 b4 r4 L3
  unfold blockVal
  have X4 : Hid (CBk (w4.alloc (.cells #[.string h.prev, .string h.root, .int .i64 h.time, .int .i64 h.diff, .int .i64 h.nonce, .slice (some ⟨g4, 0, none⟩) len len] 31)) w4.heap.size 31 #[.string h.prev, .string h.root, .int .i64 h.time, .int .i64 h.diff, .int .i64 h.nonce, .slice (some ⟨g4, 0, none⟩) len len]) := CBk.new w4 31 #[.string h.prev, .string h.root, .int .i64 h.time, .int .i64 h.diff, .int .i64 h.nonce, .slice (some ⟨g4, 0, none⟩) len len]
  have L5 : Hid (Below w.heap.size w (w4.alloc (.cells #[.string h.prev, .string h.root, .int .i64 h.time, .int .i64 h.diff, .int .i64 h.nonce, .slice (some ⟨g4, 0, none⟩) len len] 31))) := L4.out.alloc L4.out.size _
  have C5 : Hid (CBk (w4.alloc (.cells #[.string h.prev, .string h.root, .int .i64 h.time, .int .i64 h.diff, .int .i64 h.nonce, .slice (some ⟨g4, 0, none⟩) len len] 31)) w.heap.size 26 #[.string h.prev, .string h.root, .int .i64 h.time, .int .i64 h.diff, .int .i64 h.nonce, .slice a len cap]) := C4.out.alloc _
  have R5 : Hid (RowS (w4.alloc (.cells #[.string h.prev, .string h.root, .int .i64 h.time, .int .i64 h.diff, .int .i64 h.nonce, .slice (some ⟨g4, 0, none⟩) len len] 31)) g4 (zs.take len)) := R4.out.below ((Below.refl _ w4).alloc (Nat.le_refl _) _) R4.out.lt
  have him := HIM.out g4 _ R5.out.at (HK.out.below L5.out HK.out.lt) (HP.out _ L5.out)
  clear HIM HSP C4 L4 R4
  go_wp2_with fail
  refine him.mono ?_
  rintro e w6 ⟨rfl, b6⟩
  have X6 : Hid (CBk w6 w4.heap.size 31 #[.string h.prev, .string h.root, .int .i64 h.time, .int .i64 h.diff, .int .i64 h.nonce, .slice (some ⟨g4, 0, none⟩) len len]) := X4.out.call b6
  have L6 : Hid (Below w.heap.size w w6) := L5.out.trans (b6.mono L5.out.size)
  have C6 : Hid (CBk w6 w.heap.size 26 #[.string h.prev, .string h.root, .int .i64 h.time, .int .i64 h.diff, .int .i64 h.nonce, .slice a len cap]) := C5.out.call b6
  have R6 : Hid (RowS w6 g4 (zs.take len)) := R5.out.below b6 R5.out.lt
  clear X4 L5 C5 R5 b6 him
  obtain ⟨c0, c1, c2, c3, c4, c5, _⟩ := C6.out.six
  obtain ⟨d0, d1, d2, d3, d4, d5, _⟩ := X6.out.six
  · go_wp2_with fail
    go_region_held3 (fun w' => (w'.cell? ⟨w4.heap.size, 0, none⟩ = some (.string h.prev) ∧ w'.cell? ⟨w4.heap.size, 1, none⟩ = some (.string h.root) ∧ w'.cell? ⟨w4.heap.size, 2, none⟩ = some (.int .i64 h.time) ∧ w'.cell? ⟨w4.heap.size, 3, none⟩ = some (.int .i64 h.diff) ∧ w'.cell? ⟨w4.heap.size, 4, none⟩ = some (.int .i64 h.nonce) ∧ w'.cell? ⟨w4.heap.size, 5, none⟩ = some (.slice (some ⟨g4, 0, none⟩) len len)) ∧ (w'.cell? ⟨w.heap.size, 0, none⟩ = some (.string h.prev) ∧ w'.cell? ⟨w.heap.size, 1, none⟩ = some (.string h.root) ∧ w'.cell? ⟨w.heap.size, 2, none⟩ = some (.int .i64 h.time) ∧ w'.cell? ⟨w.heap.size, 3, none⟩ = some (.int .i64 h.diff) ∧ w'.cell? ⟨w.heap.size, 4, none⟩ = some (.int .i64 h.nonce) ∧ w'.cell? ⟨w.heap.size, 5, none⟩ = some (.slice a len cap)))
      (first | exact ⟨X6.out.drew.out6, C6.out.drew.out6⟩ | exact ⟨X7.out.out6, C7.out.out6⟩ | exact ⟨X8.out.out6, C8.out.out6⟩)
      (first
        | (go_at_call 6; refine (HTO.out hl2 _ L6.out.drew).mono ?_; rintro e w7 ⟨g7, rfl, r7, hg7, b7⟩; have L7 : Hid (Below w.heap.size w w7) := L6.out.drew.trans (b7.mono L6.out.size); have X7 : Hid (CBk w7 w4.heap.size 31 #[.string h.prev, .string h.root, .int .i64 h.time, .int .i64 h.diff, .int .i64 h.nonce, .slice (some ⟨g4, 0, none⟩) len len]) := X6.out.drew.call b7; have C7 : Hid (CBk w7 w.heap.size 26 #[.string h.prev, .string h.root, .int .i64 h.time, .int .i64 h.diff, .int .i64 h.nonce, .slice a len cap]) := C6.out.drew.call b7; have R7 : Hid (RowS w7 g4 (zs.take len)) := RowS.below (w := w6.drew) R6.out b7 R6.out.lt; have Q7 : Hid (RowS w7 g7 (zs.take len)) := r7; unfold blockVal)
        | (go_at_call 8; refine (HEQ.out g4 g7 _ hl2 R7.out.at Q7.out.at).mono ?_; rintro e w8 ⟨rfl, b8⟩; have L8 : Hid (Below w.heap.size w w8) := L7.out.trans (b8.mono L7.out.size); have X8 : Hid (CBk w8 w4.heap.size 31 #[.string h.prev, .string h.root, .int .i64 h.time, .int .i64 h.diff, .int .i64 h.nonce, .slice (some ⟨g4, 0, none⟩) len len]) := X7.out.call b8; have C8 : Hid (CBk w8 w.heap.size 26 #[.string h.prev, .string h.root, .int .i64 h.time, .int .i64 h.diff, .int .i64 h.nonce, .slice a len cap]) := C7.out.call b8))
    go_wp2_with fail
    go_ret
    exact ⟨rfl, L8.out⟩

end Go.Proofs.YtgnnfljobgbpbabGreatDoor

namespace Go.Proofs.YtgnnfljobgbpbabGreatDoor
open Go.ChangeShapes Go.WideShapes Go.ChangeAt Go.RowKit
open Go.ChangeMaps (open_string shut_string)
set_option linter.unusedVariables false

theorem own_fnExactBlockFilter : ownKnob Tryz.prog.godebug = none := by kernel_rfl
theorem laid_fnExactBlockFilter : laidOutB Tryz.prog = true := by kernel_rfl
theorem table_fnExactBlockFilter {W : World} (h : laidMetH Tryz.prog Rows.fnExactBlockFilterRow.laid W) : RowG W shaK ∧ TabP W := tabs_of_laid h

theorem met_fnExactBlockFilter (os : Os) : laidMet Tryz.prog Rows.fnExactBlockFilterRow.laid ((laidWorld os).forCall (fun _ _ => 0) ⟨#[], #[.agg #[.string ByteArray.empty, .string ByteArray.empty, .int .i64 0, .int .i64 0, .int .i64 0, .slice none 0 0]], []⟩).memory :=
  laidMet_of_run' 8 (by kernel_rfl) (by kernel_rfl)
theorem reads_fnExactBlockFilter (os : Os) {H : Type} (enc : TypeId × Value → H) : ∃ places, DataW.whole enc Tryz.prog ((laidWorld os).forCall (fun _ _ => 0) ⟨#[], #[.agg #[.string ByteArray.empty, .string ByteArray.empty, .int .i64 0, .int .i64 0, .int .i64 0, .slice none 0 0]], []⟩).memory Tryz.f3.params.toList Rows.fnExactBlockFilterSpec.vars false (#[.agg #[.string ByteArray.empty, .string ByteArray.empty, .int .i64 0, .int .i64 0, .int .i64 0, .slice none 0 0]] : Array Value).toList 8 = some ([.agg [.agg [.lit (.string []), .lit (.string []), .lit (.int .i64 0), .lit (.int .i64 0), .lit (.int .i64 0)], .nil]], [Rows.laid_loop_example_cordillera_impl_sumRounds], places) :=
  ⟨MemPlace.row ⟨0, 0, none⟩ 64, by kernel_rfl⟩

set_option maxRecDepth 100000 in
theorem lifted_fnExactBlockFilter (os : Os) (started : os.Started) (H : Type) (enc : TypeId × Value → H) (F : Stop.Interp) :
    ReturnsInHanded {} Tryz.checked os 3 .any ((OpenSpec.ofChange Rows.fnExactBlockFilterSpec).preRow enc Tryz.prog Tryz.f3 Rows.fnExactBlockFilterRow.domain false Rows.fnExactBlockFilterRow.laid) (((OpenSpec.ofChange Rows.fnExactBlockFilterSpec).at F).post enc Tryz.prog Tryz.f3 false true false false) := by
  obtain ⟨places, hx⟩ := reads_fnExactBlockFilter os enc
  refine returnsInHanded_of_row (C := Tryz.checked) (s := OpenSpec.ofChange Rows.fnExactBlockFilterSpec) own_fnExactBlockFilter started (by kernel_rfl) Tryz.func3
    (witness_row_at (enc := enc) (C := Tryz.checked) false (laidWorld os) #[.agg #[.string ByteArray.empty, .string ByteArray.empty, .int .i64 0, .int .i64 0, .int .i64 0, .slice none 0 0]] rfl (by kernel_rfl) (by kernel_rfl) (by kernel_rfl)
      (OpenSpec.preRow_of_cond 8 hx (by kernel_rfl) (fun k hk => by cases hk) (by kernel_rfl) (met_fnExactBlockFilter os))) ?_
  intro W base args ds gs before hval0 hW _ _ _ hL _ _
  have hval : ∀ (j : Nat) t v, Tryz.f3.params[j]? = some t → args[j]? = some v → Value.okWide Tryz.prog W .any base t v := hval0
  have hW' := hW
  obtain ⟨p, q, hA0, hV, rfl, hfz, hnd⟩ := hW
  have hA : DataW.TrodAll enc Tryz.prog W 0 (fun _ => true) true Tryz.f3.params.toList args.toList ds p := hA0
  rw [Tryz.params3] at hA hval
  obtain ⟨v0, vs0, d0, ds0, p0, q0, hargs, rfl, rfl, h0, r0⟩ := trodAll_cons hA
  obtain ⟨rfl, rfl, rfl⟩ := trodAll_nil r0
  obtain rfl : args = #[v0] := by cases args; simp_all
  obtain ⟨gv, tv, cv, fv, dv, pv, rfl, hgv, htv, hvv, hdv, rfl⟩ := trodVars_one hV
  have k0 := h0
  have lt0 : ∀ x ∈ p0, x.block < W.heap.size := by obtain ⟨m, hm⟩ := k0; exact DataW.trod_lt m _ _ _ hm
  obtain ⟨a0, ad0, len0, cap0, z0, rfl, w0, v0w⟩ := open_block (hval 0 26 v0 rfl rfl) h0
  clear hA0 hval0
  refine (walk_FnExactBlockFilter a0 ad0 len0 cap0 z0 W w0 v0w (table_fnExactBlockFilter hL).1 (table_fnExactBlockFilter hL).2).mono fun e W' ⟨he, bel⟩ => ?_
  subst he
  obtain ⟨pv', hpv⟩ := varsBack laid_fnExactBlockFilter hgv htv hvv hdv bel
  exact ⟨_, rfl, _, _, _, [], _, pv', hW', trodAll_mk1 (shut_bool Tryz.underlying4 _), (trodAll_cons_mk (Below.trod laid_fnExactBlockFilter (by kernel_rfl) (of_decide_eq_true (by kernel_rfl)) k0 bel lt0) trodAll_mk0), hpv, bel.frame _, fun h => by cases h⟩

theorem fnExactBlockFilter_said : Rows.FnExactBlockFilterSaid :=
  OpenClaim.holds_of_cond 3 Tryz.f3 rfl rfl rfl rfl rfl rfl rfl ⟨rfl, rfl, rfl, rfl, rfl⟩ rfl rfl rfl rfl rfl (by kernel_rfl) Tryz.func3 (by kernel_rfl)
    (of_decide_eq_true (by kernel_rfl)) (by unfold Func.isWrapper; first | (rw [if_pos (by decide +kernel)]; kernel_rfl) | (rw [if_neg (by decide +kernel)]; exact ⟨rfl, rfl⟩))
    (fun os started H enc _ F => by rw [OpenClaim.pre_eq_preRow]; exact lifted_fnExactBlockFilter os started H enc F)
theorem plain_fnExactBlockFilter (f : FuncId) (fn : Func) (hf : Tryz.pinned.checked.prog.funcNamed "loop.example/cordillera/laws.FnExactBlockFilter" = some f) (hfn : Tryz.pinned.checked.prog.funcs[f]? = some fn) :
    false = Tryz.pinned.checked.prog.looks [] ∧ ∀ (j : Nat) t, fn.params[j]? = some t → Tryz.pinned.checked.prog.wantsStandIn t = false := by
  obtain rfl : f = 3 := Option.some.inj ((show Tryz.prog.funcNamed "loop.example/cordillera/laws.FnExactBlockFilter" = some 3 by kernel_rfl).symm.trans hf) |>.symm
  obtain rfl : fn = Tryz.f3 := (Option.some.inj (Tryz.func3.symm.trans hfn)).symm
  refine ⟨by kernel_rfl, fun j t ht => ?_⟩
  rw [Tryz.params3] at ht
  have hall : ∀ t ∈ (#[26] : Array TypeId), Tryz.prog.wantsStandIn t = false := by
    intro t ht
    simp only [List.mem_toArray, List.mem_cons, List.not_mem_nil, or_false] at ht
    subst ht; kernel_rfl
  exact hall t (Array.mem_of_getElem? ht)
theorem fnExactBlockFilter_holds : Rows.FnExactBlockFilterCardSaid :=
  Claim7.holds_tied_plain_at .later [] _ _ _ _ fnExactBlockFilter_said (fun _ h => by cases h) (by kernel_rfl) (fun _ h => by cases h) fnExactBlockFilter_row_tie rfl ⟨rfl, rfl⟩ (by kernel_rfl) rfl plain_fnExactBlockFilter (by kernel_rfl)
#print axioms fnExactBlockFilter_holds
end Go.Proofs.YtgnnfljobgbpbabGreatDoor

