/-
  Texts that the last part needs, joined.
-/
import Derived.Test.YtpddholoehmjkaaGreatDoorPart1
import Derived.Test.YtpddholoehmjkaaGreatDoorPart2
import Derived.Test.YtpddholoehmjkaaGreatDoorPart3
import Derived.Test.YtpddholoehmjkaaGreatDoorPart4
import Derived.Deep.RegionHeld3
import Derived.Deep.AppendLies
import Derived.Test.YtpddholoehmjkaaGreatDoorProg
import Derived.WalkKit
import Derived.Below
import Derived.ProofKit
import Derived.OpenShut
import Derived.ShutString
import Derived.ChangeOld
import Derived.ChangeArms
import Derived.WideShapes
import Derived.BigRegion
import Derived.Deep.RegionWith
import Derived.Deep.OwnRows
import Derived.Laws.Rows
import Derived.Laws.Strings
set_option linter.unusedVariables false
namespace Go.Proofs.YtpddholoehmjkaaGreatDoor
open Go.RowKit

theorem meets_yes {h : HeadV} (hok : headOkB h = true) : headMeets h = decide ((headOf (headX h) : Int) / 65536 * h.diff < 32768) := by rw [headMeets, hok, Bool.true_and]
theorem meets_no {h : HeadV} (hok : headOkB h = false) : headMeets h = false := by rw [headMeets, hok, Bool.false_and]

set_option maxHeartbeats 1000000 in
set_option maxRecDepth 100000 in
theorem implHeadMeets (h : HeadV) (w : World) (hK : RowG w shaK) (hP : TabP w) :
    Calls Tryz.prog 109 #[headVal h] w fun e w' => e = .returned (.bool (headMeets h)) ∧ Below w.heap.size w w' := by
  have HK : Hid (RowG w shaK) := hK
  have HP : Hid (∀ w', Below w.heap.size w w' → TabP w') := fun w' hb => TabP.below hP hb (Nat.le_refl _)
  clear hK hP
  have hck := fun w' => implHeadOk h w'
  cases hok : headOkB h with
  | false =>
    rw [meets_no hok]
    unfold headVal
    simp only [hok] at hck
    go_enter Tryz.func109, Tryz.ntmps109
    go_wp2_with (go_at_call 124; refine (hck _).mono ?_; rintro e w1 ⟨rfl, b1⟩)
    go_ret
    exact ⟨rfl, ((Below.refl _ w).alloc (Nat.le_refl _) _).trans (b1.mono (by simp))⟩
  | true =>
    rw [meets_yes hok]
    have hpt := fun w' hk hp => implHeadSum h w' hk hp
    rw [headSum_yes hok] at hpt
    have hsh := fun w' => implSumHead ⟨(sumB (headX h)).toArray⟩ w'
    have e1 : sumHead (⟨(sumB (headX h)).toArray⟩ : ByteArray).data.toList = (headOf (headX h) : Int) := sumHead_sumB _
    rw [e1] at hsh
    clear e1
    have hhl := headOf_lt (headX h)
    generalize sumB (headX h) = sb at hpt hsh
    generalize headOf (headX h) = hd at hsh hhl ⊢
    obtain ⟨_, _, h3, h4, h5⟩ := headOk_in hok
    simp only [hok] at hck
    unfold headVal at hpt ⊢
    clear hok
    obtain ⟨p, r, t, d, n⟩ := h
    dsimp only at h3 h4 h5 hpt hck ⊢
    have ed : (hd : Int).tdiv 65536 = (hd : Int) / 65536 := Int.tdiv_eq_ediv_of_nonneg (by omega)
    have hq0 : 0 ≤ (hd : Int) / 65536 := by omega
    have hq1 : (hd : Int) / 65536 ≤ 32767 := by omega
    generalize (hd : Int) / 65536 = q at ed hq0 hq1 ⊢
    have hm1 : q * d ≤ 32767 * 8 := Int.mul_le_mul hq1 h4.2 (by omega) (by omega)
    have hm0 : 0 ≤ q * d := Int.mul_nonneg hq0 (by omega)
    have wq : IntKind.i64.wrap q = q := by rw [IntKind.wrap_i64]; omega
    have wm : IntKind.i64.wrap (q * d) = q * d := by generalize q * d = x at hm0 hm1 ⊢; rw [IntKind.wrap_i64]; omega
    have S0 : HSt w _ w.heap.size p r t d n := HSt.new w 39 p r t d n
    go_enter Tryz.func109, Tryz.ntmps109
    go_wp2_with fail
    refine (hck _).mono ?_
    rintro e w1 ⟨rfl, b1⟩
    have S1 := S0.call b1
    obtain ⟨c0, c1, c2, c3, c4⟩ := S1.out
    go_wp2_with fail
    go_region_held3 (fun w' => w'.cell? ⟨w.heap.size, 0, none⟩ = some (.string p) ∧ w'.cell? ⟨w.heap.size, 1, none⟩ = some (.string r) ∧ w'.cell? ⟨w.heap.size, 2, none⟩ = some (.int .i64 t) ∧ w'.cell? ⟨w.heap.size, 3, none⟩ = some (.int .i64 d) ∧ w'.cell? ⟨w.heap.size, 4, none⟩ = some (.int .i64 n))
      (first | (with_reducible first | exact S2.out | exact S1.out | exact S1.drew.out) | go_keep)
      (first
        | (go_at_call 69; refine (hpt _ (HK.out.below S1.drew.2.1 HK.out.lt) (HP.out _ S1.drew.2.1)).mono ?_; rintro e w2 ⟨rfl, b2⟩; have S2 : HSt w w2 w.heap.size p r t d n := S1.drew.call b2)
        | (go_at_call 148; refine (hsh _).mono ?_; rintro e w3 ⟨rfl, rfl⟩))
    go_wp2_with fail
    go_ret
    exact ⟨rfl, S2.2.1⟩

set_option maxHeartbeats 1000000 in
set_option maxRecDepth 100000 in
theorem specL3Meets (h : HeadV) (w : World) (hok : headOkB h = true) :
    Calls Tryz.prog 130 #[headVal h] w fun e w' => e = .returned (.bool (headMeets h)) ∧ Below w.heap.size w w' := by
  rw [meets_yes hok]
  have hpt := fun w' => specL3Sum h w' hok
  have hsh := fun w' => specHead ⟨(sumB (headX h)).toArray⟩ w' (isSum_sumB _)
  have e1 : ((hexN ((⟨(sumB (headX h)).toArray⟩ : ByteArray).data.toList.take 8) / 2 : Nat) : Int) = (headOf (headX h) : Int) := rfl
  rw [e1] at hsh
  clear e1
  have hhl := headOf_lt (headX h)
  generalize sumB (headX h) = sb at hpt hsh
  generalize headOf (headX h) = hd at hsh hhl ⊢
  obtain ⟨_, _, h3, h4, h5⟩ := headOk_in hok
  unfold headVal at hpt ⊢
  clear hok
  obtain ⟨p, r, t, d, n⟩ := h
  dsimp only at h3 h4 h5 hpt ⊢
  have ed : (hd : Int).tdiv 65536 = (hd : Int) / 65536 := Int.tdiv_eq_ediv_of_nonneg (by omega)
  have hq0 : 0 ≤ (hd : Int) / 65536 := by omega
  have hq1 : (hd : Int) / 65536 ≤ 32767 := by omega
  generalize (hd : Int) / 65536 = q at ed hq0 hq1 ⊢
  have hm1 : q * d ≤ 32767 * 8 := Int.mul_le_mul hq1 h4.2 (by omega) (by omega)
  have hm0 : 0 ≤ q * d := Int.mul_nonneg hq0 (by omega)
  have wq : IntKind.i64.wrap q = q := by rw [IntKind.wrap_i64]; omega
  have wm : IntKind.i64.wrap (q * d) = q * d := by generalize q * d = x at hm0 hm1 ⊢; rw [IntKind.wrap_i64]; omega
  have S1 : HSt w _ w.heap.size p r t d n := HSt.new w 39 p r t d n
  go_enter Tryz.func130, Tryz.ntmps130
  go_wp2_with fail
  go_region_held3 (fun w' => w'.cell? ⟨w.heap.size, 0, none⟩ = some (.string p) ∧ w'.cell? ⟨w.heap.size, 1, none⟩ = some (.string r) ∧ w'.cell? ⟨w.heap.size, 2, none⟩ = some (.int .i64 t) ∧ w'.cell? ⟨w.heap.size, 3, none⟩ = some (.int .i64 d) ∧ w'.cell? ⟨w.heap.size, 4, none⟩ = some (.int .i64 n))
    (first | (with_reducible first | exact S2.out | exact S1.out | exact S1.drew.out) | go_keep)
    (first
      | (go_at_call 89; refine (hpt _).mono ?_; rintro e w2 ⟨rfl, b2⟩; have S2 : HSt w w2 w.heap.size p r t d n := S1.drew.call b2)
      | (go_at_call 172; refine (hsh _).mono ?_; rintro e w3 ⟨rfl, rfl⟩))
  go_wp2_with fail
  go_ret
  exact ⟨rfl, S2.2.1⟩

end Go.Proofs.YtpddholoehmjkaaGreatDoor

set_option linter.unusedVariables false
namespace Go.Proofs.YtpddholoehmjkaaGreatDoor
open Go.RowKit

def bsum (t : List UInt8) : ByteArray := ⟨(sumB t).toArray⟩
theorem bsum_size (t : List UInt8) : (bsum t).size = 16 := by simp [bsum, ByteArray.size, sumB, hexOf]
def rootItemB (s : ByteArray) : ByteArray := bsum ([105, 116, 101, 109, 32] ++ s.data.toList)
def bothB (a b : ByteArray) : ByteArray := bsum ([98, 111, 116, 104, 32] ++ a.data.toList ++ [32] ++ b.data.toList)
def upR : List ByteArray → List ByteArray
  | a :: b :: r => bothB a b :: upR r
  | l => l
theorem upR_append : ∀ (l m : List ByteArray), l.length % 2 = 0 → upR (l ++ m) = upR l ++ upR m
  | [], m, _ => by simp [upR]
  | [a], m, h => by simp at h
  | a :: b :: r, m, h => by
    have ih := upR_append r m (by simp at h; omega)
    simp [upR, ih]
theorem upR_short {l : List ByteArray} (h : l.length ≤ 1) : upR l = l := by
  match l, h with
  | [], _ => rfl
  | [a], _ => rfl
theorem upR_length : ∀ l : List ByteArray, (upR l).length = (l.length + 1) / 2
  | [] => by simp [upR]
  | [a] => by simp [upR]
  | a :: b :: r => by
    have := upR_length r
    simp [upR, this]
    omega
theorem upR_16 : ∀ l : List ByteArray, (∀ s ∈ l, s.size = 16) → ∀ s ∈ upR l, s.size = 16
  | [], _ => by simp [upR]
  | [a], h => by simpa [upR] using h
  | a :: b :: r, h => by
    intro s hs
    rcases List.mem_cons.1 hs with rfl | hs
    · exact bsum_size _
    · exact upR_16 r (fun x hx => h x (by simp [hx])) s hs
theorem take_two (l : List ByteArray) (k : Nat) (hk : k + 1 < l.length) (he : k % 2 = 0) : upR (l.take (k + 2)) = upR (l.take k) ++ [bothB (l.getD k ByteArray.empty) (l.getD (k + 1) ByteArray.empty)] := by
  have e : l.take (k + 2) = l.take k ++ [l.getD k ByteArray.empty, l.getD (k + 1) ByteArray.empty] := by
    rw [show k + 2 = (k + 1) + 1 from rfl, List.take_add_one, List.take_add_one, List.getElem?_eq_getElem (by omega), List.getElem?_eq_getElem hk, List.append_assoc]
    simp [List.getElem?_eq_getElem hk, List.getElem?_eq_getElem (show k < l.length by omega)]
  rw [e, upR_append _ _ (by simp; omega)]
  rfl
theorem take_last (l : List ByteArray) (k : Nat) (hk : k + 1 = l.length) (he : k % 2 = 0) : upR l = upR (l.take k) ++ [l.getD k ByteArray.empty] := by
  have e : l = l.take k ++ [l.getD k ByteArray.empty] := by
    conv => lhs; rw [← List.take_append_drop k l]
    congr 1
    rw [List.drop_eq_getElem_cons (by omega), List.drop_eq_nil_of_le (by omega)]
    simp [List.getElem?_eq_getElem (show k < l.length by omega)]
  conv => lhs; rw [e]
  rw [upR_append _ _ (by simp; omega)]
  rfl
theorem take_rest (l : List ByteArray) (k : Nat) (hk : l.length ≤ k + 1) (he : k % 2 = 0) (hkl : k ≤ l.length) : upR l = upR (l.take k) ++ l.drop k := by
  conv => lhs; rw [← List.take_append_drop k l]
  rw [upR_append _ _ (by simp; omega), upR_short (l := l.drop k) (by simp; omega)]
def topR : Nat → List ByteArray → List ByteArray
  | 0, r => r
  | f + 1, r => if r.length ≤ 1 then r else topR f (upR r)
theorem topR_done (f : Nat) {r : List ByteArray} (h : r.length ≤ 1) : topR f r = r := by
  cases f with
  | zero => rfl
  | succ f => simp [topR, h]
theorem topR_step (f : Nat) {r : List ByteArray} (h : ¬ r.length ≤ 1) (hf : r.length ≤ f) : topR f r = topR (f - 1) (upR r) := by
  cases f with
  | zero => omega
  | succ f => simp [topR, h]
theorem topR_more (f g : Nat) : ∀ (r : List ByteArray), r.length ≤ f → r.length ≤ g → topR f r = topR g r := by
  induction f generalizing g with
  | zero => intro r hf hg; rw [topR_done 0 (by omega), topR_done g (by omega)]
  | succ f ih =>
    intro r hf hg
    by_cases h : r.length ≤ 1
    · rw [topR_done _ h, topR_done _ h]
    · rw [topR_step _ h hf, topR_step _ h hg]
      have := upR_length r
      exact ih _ _ (by omega) (by omega)
theorem topR_up {r : List ByteArray} (h : ¬ r.length ≤ 1) : topR r.length r = topR (upR r).length (upR r) := by
  rw [topR_step _ h (Nat.le_refl _)]
  have := upR_length r
  exact topR_more _ _ _ (by omega) (Nat.le_refl _)
/-- What a row comes to. -/
def rootR (r : List ByteArray) : ByteArray := (topR r.length r).getD 0 ByteArray.empty
theorem rootR_up {r : List ByteArray} (h : ¬ r.length ≤ 1) : rootR r = rootR (upR r) := by rw [rootR, topR_up h]; rfl
theorem rootR_one {r : List ByteArray} (h : r.length ≤ 1) : rootR r = r.getD 0 ByteArray.empty := by rw [rootR, topR_done _ h]

end Go.Proofs.YtpddholoehmjkaaGreatDoor

set_option linter.unusedVariables false
namespace Go.Proofs.YtpddholoehmjkaaGreatDoor
open Go.RowKit

set_option maxHeartbeats 1000000 in
set_option maxRecDepth 100000 in
theorem specRow (g n cap : Nat) (ss : List ByteArray) (w : World) (h : AtS w g ss) (hn : n = ss.length) (hm : n ≤ 1000000) (hs : ∀ i, i < ss.length → (ss.getD i ByteArray.empty).size ≤ 1048576) :
    Calls Tryz.prog 133 #[.slice (some ⟨g, 0, none⟩) n cap] w fun e w' => ∃ v, e = .returned v ∧ SRow w.heap.size v (ss.map rootItemB) w' ∧ Below w.heap.size w w' := by
  obtain ⟨i0, hi, hz0, hz1, hz2⟩ := info_parts infoStr
  have HA : Hid (AtS w g ss) := h
  have HN : Hid (n = ss.length) := hn
  have HS : Hid (∀ i, i < ss.length → (ss.getD i ByteArray.empty).size ≤ 1048576) := hs
  clear h hn hs
  go_enter Tryz.func133, Tryz.ntmps133
  go_wp2_with fail
  have HW0 : Hid (SRow w.heap.size (.slice (some ⟨w.heap.size, 0, none⟩) 0 0) ((ss.take 0).map rootItemB) (w.alloc (.cells #[] 9))) := srow_new w
  have HB0 : Hid (Below w.heap.size w (w.alloc (.cells #[] 9))) := (Below.refl _ w).alloc (Nat.le_refl _) _
  go_loopw [3, 4] (fun v i wr => ∃ k : Nat, k ≤ n ∧ i = .int .i64 (k : Int) ∧ Hid (SRow w.heap.size v ((ss.take k).map rootItemB) wr) ∧ Hid (Below w.heap.size w wr)) (fun _ i _ => n - (intOf i).toNat)
  case atStart => exact ⟨0, by omega, rfl, HW0, HB0⟩
  case round =>
    clear HW0 HB0
    obtain ⟨k, hk, rfl, HR, HB⟩ := hrel
    obtain ⟨⟨g3, c3, rfl⟩, hrow⟩ := HR.out
    by_cases hlt : k < n
    · have hkl : k < ss.length := by rw [← HN.out]; exact hlt
      have hc : wr.cell? ⟨g, k, none⟩ = some (.string (ss.getD k ByteArray.empty)) := by
        rw [HB.out.cell (p := ⟨g, k, none⟩) HA.out.1]
        exact HA.out.2 k hkl
      have hsz := HS.out k hkl
      obtain ⟨z, hz⟩ : ∃ z, z = ss.getD k ByteArray.empty := ⟨_, rfl⟩
      rw [← hz] at hc hsz
      have HE : Hid ((ss.take (k + 1)).map rootItemB = (ss.take k).map rootItemB ++ [rootItemB z]) := by
        show _ = _
        rw [List.take_add_one, List.getElem?_eq_getElem hkl, List.map_append, hz, List.getD_eq_getElem?_getD, List.getElem?_eq_getElem hkl]
        rfl
      have hlen : ((ss.take k).map rootItemB).length = k := by simp; omega
      rw [hlen] at hrow ⊢
      have HRW : Hid (wr.ownsRow w.heap.size 9 1 (.slice (some ⟨g3, 0, none⟩) k c3) k (((ss.take k).map rootItemB).map Value.string)) := hrow
      have HLN : Hid (((ss.take k).map rootItemB).length = k) := hlen
      have HK : Hid (k + 1 ≤ n) := hlt
      have lk : (k : Int) < (n : Int) := by omega
      have hsum := specSum ((⟨#[105, 116, 101, 109, 32]⟩ : ByteArray) ++ z) wr (by
        simp only [ByteArray.size_append]
        have e1 : (⟨#[105, 116, 101, 109, 32]⟩ : ByteArray).size = 5 := rfl
        omega)
      have et : ((⟨#[105, 116, 101, 109, 32]⟩ : ByteArray) ++ z).data.toList = [105, 116, 101, 109, 32] ++ z.data.toList := by simp
      rw [et] at hsum
      have er : (⟨(sumB ([105, 116, 101, 109, 32] ++ z.data.toList)).toArray⟩ : ByteArray) = rootItemB z := rfl
      rw [er] at hsum
      generalize rootItemB z = rz at hsum HE
      clear hz hrow hlen hkl et er
      have hx1 : k + 1 ≤ maxLen := by unfold maxLen; omega
      have hx2 : (k + 1) * 16 ≤ 140737488355328 := by omega
      go_wp2_with fail
      refine hsum.mono ?_
      rintro e w1 ⟨rfl, b1⟩
      have HRW1 : Hid (w1.ownsRow w.heap.size 9 1 (.slice (some ⟨g3, 0, none⟩) k c3) k (((ss.take k).map rootItemB).map Value.string)) := by
        refine World.ownsRow.kept HRW.out ⟨b1.os, b1.tape, b1.output, b1.size, fun j hj _ => b1.block j hj⟩ (.inr (fun e => by cases e)) (row := none)
      have HB1 : Hid (Below w.heap.size w w1) := HB.out.trans (b1.mono HB.out.size)
      have hsz1 := HB1.out.size
      clear b1 hsum
      go_wp2_with (at_builtin; refine wp_app1 rfl _ _ 23 rfl w.heap.size 9 i0 (.string ⟨#[]⟩) 16 Tryz.underlying23 hi hz0 hz1 hz2 rfl _ _ _ rfl HRW1.out (.string rz) rfl rfl hx1 hx2 hsz1 ?_; intro g4 c4 w4 hown4 hb4 _)
      go_roundw
      case rel =>
        refine ⟨k + 1, HK.out, by go_num, ⟨⟨g4, c4, ?_⟩, ?_⟩, HB1.out.trans hb4⟩
        · rw [HE.out, List.length_append, HLN.out]; rfl
        · rw [HE.out, List.length_append, HLN.out, List.map_append]; exact hown4
      case measure => have := HK.out; simp [intOf]; omega
    · have HE : Hid ((ss.take k).map rootItemB = ss.map rootItemB) := by
        show _ = _
        rw [List.take_of_length_le (by rw [← HN.out]; omega)]
      clear hrow
      go_wp2_with fail
      go_ret
      refine ⟨_, rfl, ?_, HB.out⟩
      have := HR.out
      rw [HE.out] at this ⊢
      exact this

end Go.Proofs.YtpddholoehmjkaaGreatDoor

set_option linter.unusedVariables false
namespace Go.Proofs.YtpddholoehmjkaaGreatDoor
open Go.RowKit

def sliceLen2 : Value → Nat
  | .slice _ n _ => n
  | _ => 0
theorem row_below {B n : Nat} {e : TypeId} {v : Value} {xs : List Value} {w w1 : World} (h : w.ownsRow B e 1 v n xs) (b1 : Below w.heap.size w w1) : w1.ownsRow B e 1 v n xs := by
  refine ⟨h.1, ?_⟩
  rcases h.2 with h2 | ⟨g, cap, cur, hv, h2, h3, h4⟩
  · exact .inl h2
  · exact .inr ⟨g, cap, cur, hv, h2, by rw [b1.block g (Array.getElem?_eq_some_iff.1 h3).1]; exact h3, h4⟩
theorem bothSum (a b : ByteArray) (w : World) (ha : a.size = 16) (hb : b.size = 16) :
    Calls Tryz.prog 134 #[.string ((⟨#[98, 111, 116, 104, 32]⟩ : ByteArray) ++ a ++ (⟨#[32]⟩ : ByteArray) ++ b)] w fun e w' => e = .returned (.string (bothB a b)) ∧ Below w.heap.size w w' := by
  have hsum := specSum ((⟨#[98, 111, 116, 104, 32]⟩ : ByteArray) ++ a ++ (⟨#[32]⟩ : ByteArray) ++ b) w (by
    simp only [ByteArray.size_append]
    have e1 : (⟨#[98, 111, 116, 104, 32]⟩ : ByteArray).size = 5 := rfl
    have e2 : (⟨#[32]⟩ : ByteArray).size = 1 := rfl
    omega)
  have et : ((⟨#[98, 111, 116, 104, 32]⟩ : ByteArray) ++ a ++ (⟨#[32]⟩ : ByteArray) ++ b).data.toList = [98, 111, 116, 104, 32] ++ a.data.toList ++ [32] ++ b.data.toList := by simp
  rw [et] at hsum
  exact hsum

set_option maxHeartbeats 4000000 in
set_option maxRecDepth 100000 in
theorem specUp (g n cap : Nat) (ss : List ByteArray) (w : World) (h : AtS w g ss) (hn : n = ss.length) (hm : n ≤ 1000000) (hs : ∀ s ∈ ss, s.size = 16) :
    Calls Tryz.prog 135 #[.slice (some ⟨g, 0, none⟩) n cap] w fun e w' => ∃ v, e = .returned v ∧ SRow w.heap.size v (upR ss) w' ∧ Below w.heap.size w w' := by
  obtain ⟨i0, hi, hz0, hz1, hz2⟩ := info_parts infoStr
  have HA : Hid (AtS w g ss) := h
  have HN : Hid (n = ss.length) := hn
  have HS : Hid (∀ i, i < ss.length → (ss.getD i ByteArray.empty).size = 16) := by
    intro i hi
    refine hs _ ?_
    simp [List.getElem?_eq_getElem hi]
  clear h hn hs
  go_enter Tryz.func135, Tryz.ntmps135
  go_wp2_with fail
  have HW0 : Hid (SRow w.heap.size (.slice (some ⟨w.heap.size, 0, none⟩) 0 0) (upR (ss.take 0)) (w.alloc (.cells #[] 9))) := srow_new w
  have HB0 : Hid (Below w.heap.size w (w.alloc (.cells #[] 9))) := (Below.refl _ w).alloc (Nat.le_refl _) _
  go_loopw [3, 4] (fun v i wr => ∃ k : Nat, k ≤ n + 1 ∧ i = .int .i64 (k : Int) ∧ Hid (k % 2 = 0) ∧ Hid (SRow w.heap.size v (upR (ss.take k)) wr) ∧ Hid (Below w.heap.size w wr)) (fun _ i _ => n + 2 - (intOf i).toNat)
  case atStart => exact ⟨0, by omega, rfl, rfl, HW0, HB0⟩
  case round =>
    clear HW0 HB0
    obtain ⟨k, hk, rfl, HE2, HR, HB⟩ := hrel
    obtain ⟨⟨g3, c3, rfl⟩, hrow⟩ := HR.out
    obtain ⟨ml, hml⟩ : ∃ ml, ml = (upR (ss.take k)).length := ⟨_, rfl⟩
    have hmk : ml ≤ k := by
      rw [hml, upR_length]
      simp
      omega
    rw [← hml] at hrow ⊢
    have HML : Hid (ml = (upR (ss.take k)).length) := hml
    have HRW : Hid (wr.ownsRow w.heap.size 9 1 (.slice (some ⟨g3, 0, none⟩) ml c3) ml ((upR (ss.take k)).map Value.string)) := hrow
    clear hml hrow
    have hx1 : ml + 1 ≤ maxLen := by unfold maxLen; omega
    have hx2 : (ml + 1) * 16 ≤ 140737488355328 := by omega
    have hszr := HB.out.size
    by_cases hlt : k < n
    · have hkl : k < ss.length := by rw [← HN.out]; exact hlt
      have hc : wr.cell? ⟨g, k, none⟩ = some (.string (ss.getD k ByteArray.empty)) := by
        rw [HB.out.cell (p := ⟨g, k, none⟩) HA.out.1]
        exact HA.out.2 k hkl
      have lk : (k : Int) < (n : Int) := by omega
      by_cases hlt2 : k + 1 < n
      · have hkl2 : k + 1 < ss.length := by rw [← HN.out]; exact hlt2
        have hc2 : wr.cell? ⟨g, k + 1, none⟩ = some (.string (ss.getD (k + 1) ByteArray.empty)) := by
          rw [HB.out.cell (p := ⟨g, k + 1, none⟩) HA.out.1]
          exact HA.out.2 (k + 1) hkl2
        have hs1 := HS.out k hkl
        have hs2 := HS.out (k + 1) hkl2
        have HE : Hid (upR (ss.take (k + 2)) = upR (ss.take k) ++ [bothB (ss.getD k ByteArray.empty) (ss.getD (k + 1) ByteArray.empty)]) := take_two ss k hkl2 HE2.out
        generalize ss.getD k ByteArray.empty = a at hc hs1 HE
        generalize ss.getD (k + 1) ByteArray.empty = b at hc2 hs2 HE
        have lk2 : (k : Int) + 1 < (n : Int) := by omega
        have HK : Hid (k + 2 ≤ n + 1) := by show _ ≤ _; omega
        have hw1 : IntKind.i64.wrap ((k : Int) + 1) = (k : Int) + 1 := by rw [IntKind.wrap_i64]; omega
        have l0 : (0 : Int) ≤ (k : Int) + 1 := by omega
        have l1 : (0 : Int) ≤ (k : Int) := by omega
        have hgw : g < wr.heap.size := Nat.lt_of_lt_of_le HA.out.1 hszr
        have hne : g ≠ g3 := by
          rcases HRW.out.2 with ⟨h2, _⟩ | ⟨g', cap', cur, hv, h2, _⟩
          · cases h2
          · simp only [Value.slice.injEq, Option.some.injEq, Addr.mk.injEq, and_true] at hv
            have := HA.out.1
            omega
        clear hkl hkl2
        go_wp2_with fail
        go_region_held3 (fun w' => w'.cell? ⟨g, k, none⟩ = some (.string a) ∧ w'.cell? ⟨g, k + 1, none⟩ = some (.string b)) (first | go_keep | (exact ⟨(b1.cell (p := ⟨g, k, none⟩) hgw).trans hc, (b1.cell (p := ⟨g, k + 1, none⟩) hgw).trans hc2⟩) | (have hfar : w4.heap[g]? = w1.heap[g]? := (hgrow4.block g (by simp; omega) (by simpa [Value.ownBlock] using hne)).trans (Below.heap_alloc _ _ _ (by omega)); exact ⟨(World.cell?_of_block (a := ⟨g, k, none⟩) hfar).trans ((b1.cell (p := ⟨g, k, none⟩) hgw).trans hc), (World.cell?_of_block (a := ⟨g, k + 1, none⟩) hfar).trans ((b1.cell (p := ⟨g, k + 1, none⟩) hgw).trans hc2)⟩))
          (first
            | (go_at_call 134; refine (bothSum a b _ hs1 hs2).mono ?_; rintro e w1 ⟨rfl, b0⟩; have b1 : Below wr.heap.size wr w1 := ((Below.refl wr.heap.size wr).drew).trans b0; have hb1s : wr.heap.size ≤ w1.heap.size := b1.size; clear b0)
            | ((refine step_append_lies _ (by rfl) _ _ 23 (by rfl) w.heap.size 9 i0 (.string ⟨#[]⟩) 1 16 Tryz.underlying23 hi hz0 hz1 hz2 rfl (by decide) _ ml _ (by rfl) (World.ownsRow.alloc (row_below HRW.out b1) _) ⟨w1.heap.size, 0, none⟩ 1 1 [.string (bothB a b)] (by rfl) rfl (cell_one_new _ _ _) (by simp [Value.oneCell']) (by decide) hx1 hx2 (by simp; omega) _ rfl ?_; intro g4 c4 w4 hown4 hgrow4 hat4 hlt4)))
        have hb4 : Below w.heap.size w w4 := ((HB.out.trans (b1.mono hszr)).alloc (by omega) _).grown hgrow4 (by simp; omega) (fun j hj => by
          rcases HRW.out.2 with ⟨h2, _⟩ | ⟨g', cap', cur, hv, h2, _⟩
          · cases h2
          · simp only [Value.slice.injEq, Option.some.injEq, Addr.mk.injEq, and_true] at hv
            have : g3 = j := by simpa [Value.ownBlock] using hj
            omega)
        have HR4 : Hid (SRow w.heap.size (.slice (some ⟨g4, 0, none⟩) (ml + 1) c4) (upR (ss.take (k + 2))) w4) := by
          refine ⟨⟨g4, c4, ?_⟩, ?_⟩
          · rw [HE.out, List.length_append, ← HML.out]; rfl
          · rw [HE.out, List.length_append, ← HML.out, List.map_append]; exact hown4
        clear hown4 hgrow4 hat4 hlt4 b1
        go_wp2_with fail
        go_roundw
        case rel => exact ⟨k + 2, HK.out, by go_num, by have := HE2.out; show _ = _; omega, HR4, hb4⟩
        case measure => have := HK.out; simp [intOf]; omega
      · have hkn : k + 1 = ss.length := by have := HN.out; omega
        have hs1 := HS.out k hkl
        have HE : Hid (upR ss = upR (ss.take k) ++ [ss.getD k ByteArray.empty]) := take_last ss k hkn HE2.out
        have HEE : Hid (ss.take (k + 2) = ss) := List.take_of_length_le (by omega)
        generalize ss.getD k ByteArray.empty = a at hc hs1 HE
        have lk2 : ¬ (k : Int) + 1 < (n : Int) := by omega
        have HK : Hid (k + 2 ≤ n + 1) := by show _ ≤ _; omega
        have l1 : (0 : Int) ≤ (k : Int) := by omega
        clear hkl hkn
        go_wp2_with (at_builtin; refine wp_app1 rfl _ _ 23 rfl w.heap.size 9 i0 (.string ⟨#[]⟩) 16 Tryz.underlying23 hi hz0 hz1 hz2 rfl _ _ _ rfl HRW.out (.string a) rfl rfl hx1 hx2 hszr ?_; intro g4 c4 w4 hown4 hb4 _)
        have HR4 : Hid (SRow w.heap.size (.slice (some ⟨g4, 0, none⟩) (ml + 1) c4) (upR (ss.take (k + 2))) w4) := by
          rw [HEE.out]
          refine ⟨⟨g4, c4, ?_⟩, ?_⟩
          · rw [HE.out, List.length_append, ← HML.out]; rfl
          · rw [HE.out, List.length_append, ← HML.out, List.map_append]; exact hown4
        clear hown4
        go_roundw
        case rel => exact ⟨k + 2, HK.out, by go_num, by have := HE2.out; show _ = _; omega, HR4, HB.out.trans hb4⟩
        case measure => have := HK.out; simp [intOf]; omega
    · have HE : Hid (upR (ss.take k) = upR ss) := by
        show _ = _
        rw [List.take_of_length_le (by rw [← HN.out]; omega)]
      go_wp2_with fail
      go_ret
      refine ⟨_, rfl, ?_, HB.out⟩
      have := HR.out
      rw [HML.out, HE.out]
      rw [HE.out] at this
      exact this


end Go.Proofs.YtpddholoehmjkaaGreatDoor

set_option linter.unusedVariables false
namespace Go.Proofs.YtpddholoehmjkaaGreatDoor
open Go.RowKit

set_option maxHeartbeats 1000000 in
set_option maxRecDepth 100000 in
theorem implRootItem (z : ByteArray) (w : World) (hz : z.size ≤ 1048576) (hK : RowG w shaK) :
    Calls Tryz.prog 98 #[.string z] w fun e w' => e = .returned (.string (rootItemB z)) ∧ Below w.heap.size w w' := by
  have hsum := implSum ((⟨#[105, 116, 101, 109, 32]⟩ : ByteArray) ++ z) w (by
    simp only [ByteArray.size_append]
    have e1 : (⟨#[105, 116, 101, 109, 32]⟩ : ByteArray).size = 5 := rfl
    omega) hK
  have et : ((⟨#[105, 116, 101, 109, 32]⟩ : ByteArray) ++ z).data.toList = [105, 116, 101, 109, 32] ++ z.data.toList := by simp
  rw [et] at hsum
  have er : (⟨(sumB ([105, 116, 101, 109, 32] ++ z.data.toList)).toArray⟩ : ByteArray) = rootItemB z := rfl
  rw [er] at hsum
  generalize rootItemB z = rz at hsum
  clear et er hK
  go_enter Tryz.func98, Tryz.ntmps98
  go_wp2_with fail
  refine hsum.mono ?_
  rintro e w1 ⟨rfl, b1⟩
  go_wp2_with fail
  go_ret
  exact ⟨rfl, b1⟩

set_option maxHeartbeats 1000000 in
set_option maxRecDepth 100000 in
theorem implRootBoth (a b : ByteArray) (w : World) (ha : a.size = 16) (hb : b.size = 16) (hK : RowG w shaK) :
    Calls Tryz.prog 100 #[.string a, .string b] w fun e w' => e = .returned (.string (bothB a b)) ∧ Below w.heap.size w w' := by
  have hsum := implSum ((⟨#[98, 111, 116, 104, 32]⟩ : ByteArray) ++ a ++ (⟨#[32]⟩ : ByteArray) ++ b) w (by
    simp only [ByteArray.size_append]
    have e1 : (⟨#[98, 111, 116, 104, 32]⟩ : ByteArray).size = 5 := rfl
    have e2 : (⟨#[32]⟩ : ByteArray).size = 1 := rfl
    omega) hK
  have et : ((⟨#[98, 111, 116, 104, 32]⟩ : ByteArray) ++ a ++ (⟨#[32]⟩ : ByteArray) ++ b).data.toList = [98, 111, 116, 104, 32] ++ a.data.toList ++ [32] ++ b.data.toList := by simp
  rw [et] at hsum
  have er : (⟨(sumB ([98, 111, 116, 104, 32] ++ a.data.toList ++ [32] ++ b.data.toList)).toArray⟩ : ByteArray) = bothB a b := rfl
  rw [er] at hsum
  generalize bothB a b = rz at hsum
  clear et er hK
  go_enter Tryz.func100, Tryz.ntmps100
  go_wp2_with fail
  refine hsum.mono ?_
  rintro e w1 ⟨rfl, b1⟩
  go_wp2_with fail
  go_ret
  exact ⟨rfl, b1⟩

theorem drop_news {w : World} {g : Nat} {ss : List ByteArray} (h : AtS w g ss) (k r off : Nat) (hk : k + r = ss.length) (ho : 0 < r → off = k) : ∀ j u, ((ss.drop k).map Value.string)[j]? = some u → w.cell? ((⟨g, off, none⟩ : Addr).add j) = some u := by
  intro j u hu
  have hj : j < r := by
    have := (List.getElem?_eq_some_iff.1 hu).1
    simp at this
    omega
  have e := ho (by omega)
  subst e
  have hc := h.2 (off + j) (by omega)
  have e2 : ((ss.drop off).map Value.string)[j]? = some (.string (ss.getD (off + j) ByteArray.empty)) := by
    rw [List.getElem?_map, List.getElem?_drop, List.getElem?_eq_getElem (by omega)]
    simp [List.getElem?_eq_getElem (show off + j < ss.length by omega)]
  rw [e2] at hu
  rw [← hu, ← hc]
  rcases j with _ | j
  · simp [Addr.add]
  · simp [Addr.add]

set_option maxHeartbeats 4000000 in
set_option maxRecDepth 100000 in
theorem implAbove (g n cap : Nat) (ss : List ByteArray) (w : World) (h : AtS w g ss) (hn : n = ss.length) (hc : n ≤ cap) (hm : n ≤ 1000000) (hs : ∀ s ∈ ss, s.size = 16) (hK : RowG w shaK) :
    Calls Tryz.prog 140 #[.slice (some ⟨g, 0, none⟩) n cap, .func (.func 100) #[] #[]] w fun e w' => ∃ v, e = .returned v ∧ SRow w.heap.size v (upR ss) w' ∧ Below w.heap.size w w' := by
  obtain ⟨i0, hi, hz0, hz1, hz2⟩ := info_parts infoStr
  have HA : Hid (AtS w g ss) := h
  have HN : Hid (n = ss.length) := hn
  have HKG : Hid (RowG w shaK) := hK
  have HS : Hid (∀ i, i < ss.length → (ss.getD i ByteArray.empty).size = 16) := by
    intro i hi
    refine hs _ ?_
    simp [List.getElem?_eq_getElem hi]
  obtain ⟨m2, hm2⟩ : ∃ m2, m2 = (n + 1) / 2 := ⟨_, rfl⟩
  have hmk := makeCapS m2 (by omega)
  have hq : ((n : Int) + 1) / 2 = (m2 : Int) := by omega
  have HW0 : Hid (SRow w.heap.size (.slice (some ⟨w.heap.size, 0, none⟩) 0 m2) (upR (ss.take 0)) (w.alloc (.cells (sCells (List.replicate m2 ⟨#[]⟩)) 9))) := srow_cap w m2 (by omega)
  have HB0 : Hid (Below w.heap.size w (w.alloc (.cells (sCells (List.replicate m2 ⟨#[]⟩)) 9))) := (Below.refl _ w).alloc (Nat.le_refl _) _
  clear h hn hs hK hm2
  go_enter Tryz.func140, Tryz.ntmps140
  go_wp2_with fail
  clear hmk hq
  go_loopw [0, 5] (fun rv av wr => ∃ (k r off c1 ml c3 g3 : Nat), rv = .slice (some ⟨g, off, none⟩) r c1 ∧ av = .slice (some ⟨g3, 0, none⟩) ml c3 ∧ r ≤ c1 ∧ r ≤ n ∧ ml ≤ n ∧ Hid (k + r = n ∧ k % 2 = 0 ∧ (0 < r → off = k) ∧ ml = (upR (ss.take k)).length) ∧ Hid (SRow w.heap.size av (upR (ss.take k)) wr) ∧ Hid (Below w.heap.size w wr)) (fun rv _ _ => sliceLen2 rv)
  case atStart => exact ⟨0, n, 0, cap, 0, m2, w.heap.size, rfl, rfl, hc, Nat.le_refl _, Nat.zero_le _, ⟨by omega, rfl, fun _ => rfl, rfl⟩, HW0, HB0⟩
  case round =>
    clear HW0 HB0
    obtain ⟨k, r, off, c1, ml, c3, g3, rfl, rfl, hrc, hrn, hmln, HX, HR, HB⟩ := hrel
    have HRW : Hid (wr.ownsRow w.heap.size 9 1 (.slice (some ⟨g3, 0, none⟩) ml c3) ml ((upR (ss.take k)).map Value.string)) := by
      have := HR.out.2
      rw [← HX.out.2.2.2] at this
      exact this
    have hszr := HB.out.size
    have hgw : g < wr.heap.size := Nat.lt_of_lt_of_le HA.out.1 hszr
    have hne : g ≠ g3 := by
      rcases HRW.out.2 with ⟨h2, _⟩ | ⟨g', cap', cur, hv, h2, _⟩
      · cases h2
      · simp only [Value.slice.injEq, Option.some.injEq, Addr.mk.injEq, and_true] at hv
        have := HA.out.1
        omega
    have hx1 : ml + 1 ≤ maxLen := by unfold maxLen; omega
    have hx2 : (ml + 1) * 16 ≤ 140737488355328 := by omega
    by_cases h1 : 1 < r
    · obtain rfl : off = k := HX.out.2.2.1 (by omega)
      have hkl2 : off + 1 < ss.length := by have := HX.out.1; have := HN.out; omega
      have hkl : off < ss.length := by omega
      have hc0 : wr.cell? ⟨g, off, none⟩ = some (.string (ss.getD off ByteArray.empty)) := by
        rw [HB.out.cell (p := ⟨g, off, none⟩) HA.out.1]
        exact HA.out.2 off hkl
      have hc2 : wr.cell? ⟨g, off + 1, none⟩ = some (.string (ss.getD (off + 1) ByteArray.empty)) := by
        rw [HB.out.cell (p := ⟨g, off + 1, none⟩) HA.out.1]
        exact HA.out.2 (off + 1) hkl2
      have hs1 := HS.out off hkl
      have hs2 := HS.out (off + 1) hkl2
      have HE : Hid (upR (ss.take (off + 2)) = upR (ss.take off) ++ [bothB (ss.getD off ByteArray.empty) (ss.getD (off + 1) ByteArray.empty)]) := take_two ss off hkl2 HX.out.2.1
      generalize ss.getD off ByteArray.empty = a at hc0 hs1 HE
      generalize ss.getD (off + 1) ByteArray.empty = b at hc2 hs2 HE
      have h1' : (1 : Int) < (r : Int) := by omega
      have h0' : (0 : Int) < (r : Int) := by omega
      have h0'' : 0 < r := by omega
      have hKr : RowG wr shaK := HKG.out.below HB.out HKG.out.lt
      have HKr : Hid (RowG wr.drew shaK) := hKr.drew
      have hr2 : (2 : Int) ≤ (r : Int) ∧ (r : Int) ≤ (c1 : Int) := by omega
      clear hkl hkl2 hKr
      go_wp2_with fail
      go_region_held3 (fun w' => w'.cell? ⟨g, off, none⟩ = some (.string a) ∧ w'.cell? ⟨g, off + 1, none⟩ = some (.string b)) (first | go_keep | (exact ⟨(b1.cell (p := ⟨g, off, none⟩) hgw).trans hc0, (b1.cell (p := ⟨g, off + 1, none⟩) hgw).trans hc2⟩) | (have hfar : w4.heap[g]? = w1.heap[g]? := (hgrow4.block g (by simp; omega) (by simpa [Value.ownBlock] using hne)).trans (Below.heap_alloc _ _ _ (by omega)); exact ⟨(World.cell?_of_block (a := ⟨g, off, none⟩) hfar).trans ((b1.cell (p := ⟨g, off, none⟩) hgw).trans hc0), (World.cell?_of_block (a := ⟨g, off + 1, none⟩) hfar).trans ((b1.cell (p := ⟨g, off + 1, none⟩) hgw).trans hc2)⟩))
        (first
          | (go_at_call 100; refine (implRootBoth a b _ hs1 hs2 HKr.out).mono ?_; rintro e w1 ⟨rfl, b0⟩; have b1 : Below wr.heap.size wr w1 := ((Below.refl wr.heap.size wr).drew).trans b0; have hb1s : wr.heap.size ≤ w1.heap.size := b1.size; clear b0)
          | ((refine step_append_lies _ (by rfl) _ _ 23 (by rfl) w.heap.size 9 i0 (.string ⟨#[]⟩) 1 16 Tryz.underlying23 hi hz0 hz1 hz2 rfl (by decide) _ ml _ (by rfl) (World.ownsRow.alloc (row_below HRW.out b1) _) ⟨w1.heap.size, 0, none⟩ 1 1 [.string (bothB a b)] (by rfl) rfl (cell_one_new _ _ _) (by simp [Value.oneCell']) (by decide) hx1 hx2 (by simp; omega) _ rfl ?_; intro g4 c4 w4 hown4 hgrow4 hat4 hlt4)))
      have hb4 : Below w.heap.size w w4 := ((HB.out.trans (b1.mono hszr)).alloc (by omega) _).grown hgrow4 (by simp; omega) (fun j hj => by
        rcases HRW.out.2 with ⟨h2, _⟩ | ⟨g', cap', cur, hv, h2, _⟩
        · cases h2
        · simp only [Value.slice.injEq, Option.some.injEq, Addr.mk.injEq, and_true] at hv
          have : g3 = j := by simpa [Value.ownBlock] using hj
          omega)
      have HLN : Hid (ml + 1 = (upR (ss.take (off + 2))).length) := by
        show _ = _
        rw [HE.out, List.length_append, ← HX.out.2.2.2]; rfl
      have HR4 : Hid (SRow w.heap.size (.slice (some ⟨g4, 0, none⟩) (ml + 1) c4) (upR (ss.take (off + 2))) w4) := by
        refine ⟨⟨g4, c4, ?_⟩, ?_⟩
        · rw [← HLN.out]
        · rw [← HLN.out, HE.out, List.map_append]; exact hown4
      have HML : Hid (ml + 1 ≤ n) := by
        have h3 := upR_length (ss.take (off + 2))
        have h4 := HLN.out
        have h5 := HX.out.1
        have h6 : (ss.take (off + 2)).length ≤ off + 2 := by simp; omega
        show _ ≤ _
        omega
      clear hown4 hgrow4 hat4 hlt4 b1
      by_cases hc12 : c1 = 2
      · obtain rfl : r = 2 := by omega
        subst hc12
        go_wp2_with fail
        go_roundw
        case rel =>
          refine ⟨off + 2, 0, _, _, ml + 1, c4, g4, rfl, rfl, by omega, by omega, HML.out, ⟨by have := HX.out.1; omega, by have := HX.out.2.1; omega, fun h => by omega, HLN.out⟩, HR4, hb4⟩
        case measure => simp [sliceLen2]
      · have hc12' : ¬ (c1 : Int) = 2 := by omega
        go_wp2_with fail
        go_roundw
        case rel =>
          refine ⟨off + 2, r - 2, _, _, ml + 1, c4, g4, rfl, rfl, by omega, by omega, HML.out, ⟨by have := HX.out.1; omega, by have := HX.out.2.1; omega, fun h => rfl, HLN.out⟩, HR4, hb4⟩
        case measure => simp [sliceLen2]; omega
    · have h1' : ¬ (1 : Int) < (r : Int) := by omega
      have HE : Hid (upR ss = upR (ss.take k) ++ ss.drop k) := take_rest ss k (by have := HX.out.1; have := HN.out; omega) HX.out.2.1 (by have := HX.out.1; have := HN.out; omega)
      have hnews := drop_news (HA.out.below HB.out HA.out.1) k r off (by have := HX.out.1; have := HN.out; omega) HX.out.2.2.1
      have HLD : Hid (((ss.drop k).map Value.string).length = r * 1) := by
        have := HX.out.1
        have := HN.out
        show _ = _
        simp
        omega
      have h1c : ∀ u ∈ (ss.drop k).map Value.string, u.oneCell' = true := by
        intro u hu
        obtain ⟨x, _, rfl⟩ := List.mem_map.1 hu
        rfl
      have hx3 : ml + r ≤ maxLen := by unfold maxLen; omega
      have hx4 : (ml + r) * 16 ≤ 140737488355328 := by omega
      have HNE : Hid ((upR ss).map Value.string = (upR (ss.take k)).map Value.string ++ (ss.drop k).map Value.string ∧ (upR ss).length = ml + r) := by
        have h3 := HX.out.1
        have h4 := HN.out
        rw [HE.out]
        refine ⟨by rw [List.map_append], ?_⟩
        rw [List.length_append, ← HX.out.2.2.2]
        simp
        omega
      generalize (ss.drop k).map Value.string = news at hnews HLD h1c HNE
      go_wp2_with (at_builtin; refine wpList_append_own _ rfl _ _ 23 rfl w.heap.size 9 i0 (.string ⟨#[]⟩) 1 16 Tryz.underlying23 hi hz0 hz1 hz2 rfl (by decide) (.slice (some ⟨g3, 0, none⟩) ml c3) ml _ rfl HRW.out ⟨g, off, none⟩ r c1 news rfl HLD.out hnews h1c hx3 hx4 hszr ?_; intro v' w4 hown4 hgrow4 hnil4)
      have hb4 : Below w.heap.size w w4 := HB.out.grown hgrow4 hszr (fun j hj => by
        rcases HRW.out.2 with ⟨h2, _⟩ | ⟨g', cap', cur, hv, h2, _⟩
        · cases h2
        · simp only [Value.slice.injEq, Option.some.injEq, Addr.mk.injEq, and_true] at hv
          have : g3 = j := by simpa [Value.ownBlock] using hj
          omega)
      obtain ⟨g4, c4, rfl⟩ : ∃ g4 c4, v' = .slice (some ⟨g4, 0, none⟩) (ml + r) c4 := by
        rcases hown4.2 with ⟨h2, _⟩ | ⟨g', cap', cur, hv, _⟩
        · have := (hnil4.1 h2).1
          cases this
        · exact ⟨g', cap', hv⟩
      have HR4 : Hid (SRow w.heap.size (.slice (some ⟨g4, 0, none⟩) (ml + r) c4) (upR ss) w4) := by
        refine ⟨⟨g4, c4, ?_⟩, ?_⟩
        · rw [HNE.out.2]
        · rw [HNE.out.2, HNE.out.1]; exact hown4
      clear hown4 hgrow4 hnil4
      go_wp2_with fail
      go_ret
      exact ⟨_, rfl, HR4.out, hb4⟩


set_option maxHeartbeats 1000000 in
set_option maxRecDepth 100000 in
theorem implTop (g n cap : Nat) (ss : List ByteArray) (w : World) (h : AtS w g ss) (hn : n = ss.length) (hc : n ≤ cap) (hm : n ≤ 1000000) (h0 : n ≠ 0) (hs : ∀ s ∈ ss, s.size = 16) (hK : RowG w shaK) :
    Calls Tryz.prog 99 #[.slice (some ⟨g, 0, none⟩) n cap, .func (.func 100) #[] #[]] w fun e w' => e = .returned (.string (rootR ss)) ∧ Below w.heap.size w w' := by
  obtain ⟨R, hR⟩ : ∃ R, R = rootR ss := ⟨_, rfl⟩
  rw [← hR]
  have HT0 : Hid (rootR ss = R) := hR.symm
  have HA0 : Hid (AtS w g ss) := h
  have HN0 : Hid (n = ss.length ∧ n ≠ 0) := ⟨hn, h0⟩
  have H60 : Hid (∀ s ∈ ss, s.size = 16) := hs
  have HKG : Hid (RowG w shaK) := hK
  clear hR h hn hs hK h0
  go_enter Tryz.func99, Tryz.ntmps99
  go_wp2_with fail
  go_loopw [0] (fun v wr => ∃ (rs : List ByteArray) (g2 c2 m : Nat), v = .slice (some ⟨g2, 0, none⟩) m c2 ∧ m ≤ n ∧ m ≤ c2 ∧ Hid (m = rs.length ∧ m ≠ 0) ∧ Hid (AtS wr g2 rs) ∧ Hid (∀ s ∈ rs, s.size = 16) ∧ Hid (rootR rs = R) ∧ Hid (Below w.heap.size w wr)) (fun v _ => sliceLen2 v)
  case atStart => exact ⟨ss, g, cap, n, rfl, Nat.le_refl _, hc, HN0, HA0, H60, HT0, Below.refl _ _⟩
  case round =>
    obtain ⟨rs, g2, c2, m, rfl, hmn, hmc, HM, HA, H6, HT, HB⟩ := hrel
    by_cases h1 : 1 < m
    · have h1' : (1 : Int) < (m : Int) := by omega
      have hup := implAbove g2 m c2 rs wr HA.out HM.out.1 hmc (by omega) H6.out (HKG.out.below HB.out HKG.out.lt)
      have HU : Hid (rootR (upR rs) = R) := by
        show _ = _
        rw [← HT.out]
        exact (rootR_up (by have := HM.out.1; omega)).symm
      have HUL : Hid ((upR rs).length < m ∧ (upR rs).length ≠ 0) := by
        have := upR_length rs
        have := HM.out.1
        exact ⟨by omega, by omega⟩
      have HU6 : Hid (∀ s ∈ upR rs, s.size = 16) := upR_16 rs H6.out
      go_wp2_with fail
      refine hup.mono ?_
      rintro e w2 ⟨v2, rfl, hr2, b2⟩
      have hle : ∃ g3 c3, v2 = .slice (some ⟨g3, 0, none⟩) (upR rs).length c3 ∧ (upR rs).length ≤ c3 := by
        obtain ⟨⟨g3, c3, rfl⟩, _, h5⟩ := hr2
        rcases h5 with ⟨h5, _⟩ | ⟨g', cap', cur, hv, _, _, h6, _⟩
        · cases h5
        · simp only [Value.slice.injEq, Option.some.injEq, Addr.mk.injEq, and_true] at hv
          obtain ⟨rfl, _, rfl⟩ := hv
          exact ⟨g3, c3, rfl, h6⟩
      obtain ⟨g3, c3, rfl, hlc⟩ := hle
      have HA2 : Hid (AtS w2 g3 (upR rs)) := hr2.at.1
      have HB2 : Hid (Below w.heap.size w w2) := HB.out.trans (b2.mono HB.out.size)
      clear hup hr2 b2
      obtain ⟨mm, hmm⟩ : ∃ mm, mm = (upR rs).length := ⟨_, rfl⟩
      rw [← hmm] at HUL hlc ⊢
      have HMM : Hid (mm = (upR rs).length) := hmm
      clear hmm
      go_wp2_with fail
      go_roundw
      case rel => exact ⟨upR rs, g3, c3, mm, rfl, by have := HUL.out; omega, hlc, ⟨HMM.out, HUL.out.2⟩, HA2, HU6, HU, HB2⟩
      case measure => have := HUL.out; simp [sliceLen2]; omega
    · have h1' : ¬ (1 : Int) < (m : Int) := by omega
      have hm1 : m = 1 := by have := HM.out.2; omega
      subst hm1
      have hc0 := HA.out.2 0 (by rw [← HM.out.1]; omega)
      have HV : Hid (rs.getD 0 ByteArray.empty = R) := by
        show _ = _
        rw [← HT.out, rootR_one (by rw [← HM.out.1]; omega)]
      generalize rs.getD 0 ByteArray.empty = z at hc0 HV
      go_wp2_with fail
      go_ret
      rw [← HV.out]
      exact ⟨rfl, HB.out⟩

end Go.Proofs.YtpddholoehmjkaaGreatDoor

set_option linter.unusedVariables false
namespace Go.Proofs.YtpddholoehmjkaaGreatDoor
open Go.RowKit

set_option maxHeartbeats 2000000 in
set_option maxRecDepth 100000 in
theorem implItemOk (s : ByteArray) (w : World) :
    Calls Tryz.prog 137 #[.string s] w fun e w' => e = .returned (.bool (isItem s.data.toList)) ∧ w = w' := by
  by_cases h0 : s.size = 0
  · have hno := isItem_len_no (s := s) (by omega)
    obtain rfl : s = ⟨#[]⟩ := by
      apply ByteArray.ext
      exact Array.size_eq_zero_iff.1 h0
    rw [hno]
    go_enter Tryz.func137, Tryz.ntmps137
    go_wp2
    go_ret
    exact ⟨rfl, rfl⟩
  · have hne : ¬ s = ⟨#[]⟩ := by rintro rfl; exact h0 rfl
    have hn1 : ¬ s.toList = [] := by
      rw [ByteArray.toList_eq]
      intro h
      exact h0 (by have := congrArg List.length h; simpa using this)
    have hn2 : s.toList.isEmpty = false := by
      cases hl : s.toList with
      | nil => exact absurd hl hn1
      | cons a l => rfl
    by_cases h8 : (8 : Int) < (s.size : Int)
    · have hno := isItem_len_no (s := s) (by omega)
      rw [hno]
      go_enter Tryz.func137, Tryz.ntmps137
      go_wp2
      go_ret
      exact ⟨rfl, rfl⟩
    · have hl : 1 ≤ s.size ∧ s.size ≤ 8 := by omega
      go_enter Tryz.func137, Tryz.ntmps137
      go_wp2
      go_loop [15] (fun i => ∃ k : Nat, k ≤ s.size ∧ i = .int .i64 k ∧ Hid (∀ j (hj : j < s.size), j < k → itemC s[j] = true)) (fun i => s.size - (intOf i).toNat)
      case atStart => exact ⟨0, by omega, rfl, fun j hj h => by omega⟩
      case round =>
        obtain ⟨k, hk, rfl, hall⟩ := hrel
        by_cases hlt : k < s.size
        · cases hx : itemC s[k] with
          | true =>
            have hxx := of_decide_eq_true hx
            have HX : Hid (itemC s[k] = true) := hx
            by_cases h97 : (97 : Int) ≤ (s[k].toNat : Int)
            · have h122 : (s[k].toNat : Int) ≤ 122 := by omega
              have h48 : (48 : Int) ≤ (s[k].toNat : Int) := by omega
              have h57 : decide ((s[k].toNat : Int) ≤ 57) = false := decide_eq_false (by omega)
              clear hx hxx
              go_wp2
              go_round
              case rel =>
                refine ⟨k + 1, by omega, by go_num, ?_⟩
                intro j hj hjk
                rcases Nat.lt_or_ge j k with h | h
                · exact hall.out j hj h
                · obtain rfl : j = k := by omega
                  exact HX.out
              case measure => simp [intOf]; omega
            · have h97' : decide ((97 : Int) ≤ (s[k].toNat : Int)) = false := decide_eq_false h97
              have h48 : (48 : Int) ≤ (s[k].toNat : Int) := by omega
              have h57 : (s[k].toNat : Int) ≤ 57 := by omega
              clear hx hxx
              go_wp2
              go_round
              case rel =>
                refine ⟨k + 1, by omega, by go_num, ?_⟩
                intro j hj hjk
                rcases Nat.lt_or_ge j k with h | h
                · exact hall.out j hj h
                · obtain rfl : j = k := by omega
                  exact HX.out
              case measure => simp [intOf]; omega
          | false =>
            have hxx := of_decide_eq_false hx
            have HNO : Hid (isItem s.data.toList = false) := isItem_no k hlt hx
            clear hx
            by_cases h97 : (97 : Int) ≤ (s[k].toNat : Int)
            · have h122 : decide ((s[k].toNat : Int) ≤ 122) = false := decide_eq_false (by omega)
              have h48 : (48 : Int) ≤ (s[k].toNat : Int) := by omega
              have h57 : decide ((s[k].toNat : Int) ≤ 57) = false := decide_eq_false (by omega)
              go_wp2
              go_ret
              rw [HNO.out]
              exact ⟨rfl, rfl⟩
            · have h97' : decide ((97 : Int) ≤ (s[k].toNat : Int)) = false := decide_eq_false h97
              by_cases h48 : (48 : Int) ≤ (s[k].toNat : Int)
              · have h57 : decide ((s[k].toNat : Int) ≤ 57) = false := decide_eq_false (by omega)
                go_wp2
                go_ret
                rw [HNO.out]
                exact ⟨rfl, rfl⟩
              · have h48' : decide ((48 : Int) ≤ (s[k].toNat : Int)) = false := decide_eq_false h48
                go_wp2
                go_ret
                rw [HNO.out]
                exact ⟨rfl, rfl⟩
        · have HY : Hid (isItem s.data.toList = true) := isItem_yes hl (fun j hj => hall.out j hj (by omega))
          go_wp2
          go_ret
          rw [HY.out]
          exact ⟨rfl, rfl⟩

end Go.Proofs.YtpddholoehmjkaaGreatDoor

set_option linter.unusedVariables false
namespace Go.Proofs.YtpddholoehmjkaaGreatDoor
open Go.RowKit

set_option maxHeartbeats 2000000 in
set_option maxRecDepth 100000 in
theorem specItemOk (s : ByteArray) (w : World) (hs : s.size ≤ maxLen) :
    Calls Tryz.prog 85 #[.string s] w fun e w' => e = .returned (.bool (isItem s.data.toList)) ∧ w = w' := by
  unfold maxLen at hs
  go_enter Tryz.func85, Tryz.ntmps85
  go_wp2
  go_loop [3] (fun i => ∃ k : Nat, k ≤ s.size ∧ i = .int .i64 k ∧ Hid (∀ j (hj : j < s.size), j < k → itemC s[j] = true)) (fun i => s.size - (intOf i).toNat)
  case atStart => exact ⟨0, by omega, rfl, fun j hj h => by omega⟩
  case round =>
    obtain ⟨k, hk, rfl, hall⟩ := hrel
    by_cases hlt : k < s.size
    · cases hx : itemC s[k] with
      | true =>
        have hxx := of_decide_eq_true hx
        have HX : Hid (itemC s[k] = true) := hx
        by_cases hfg : figB s[k] = true
        · have h97 : (s[k].toNat : Int) < 97 := by
            have : 48 ≤ s[k].toNat ∧ s[k].toNat ≤ 57 := of_decide_eq_true hfg
            omega
          clear hx hxx
          go_wp2_with (go_at_call 132; refine (specFigure _ _).mono ?_; rintro e w1 ⟨rfl, rfl⟩)
          go_round
          case rel =>
            refine ⟨k + 1, by omega, by go_num, ?_⟩
            intro j hj hjk
            rcases Nat.lt_or_ge j k with h | h
            · exact hall.out j hj h
            · obtain rfl : j = k := by omega
              exact HX.out
          case measure => simp [intOf]; omega
        · have hff : figB s[k] = false := by simpa using hfg
          have h97 : ¬ (s[k].toNat : Int) < 97 := by
            have : ¬ (48 ≤ s[k].toNat ∧ s[k].toNat ≤ 57) := of_decide_eq_false hff
            omega
          have h122 : ¬ (122 : Int) < (s[k].toNat : Int) := by omega
          clear hx hxx hfg
          go_wp2_with (go_at_call 132; refine (specFigure _ _).mono ?_; rintro e w1 ⟨rfl, rfl⟩)
          go_round
          case rel =>
            refine ⟨k + 1, by omega, by go_num, ?_⟩
            intro j hj hjk
            rcases Nat.lt_or_ge j k with h | h
            · exact hall.out j hj h
            · obtain rfl : j = k := by omega
              exact HX.out
          case measure => simp [intOf]; omega
      | false =>
        have hxx := of_decide_eq_false hx
        have hff : figB s[k] = false := decide_eq_false (by omega)
        have HNO : Hid (isItem s.data.toList = false) := isItem_no k hlt hx
        clear hx
        by_cases h97 : (s[k].toNat : Int) < 97
        · go_wp2_with (go_at_call 132; refine (specFigure _ _).mono ?_; rintro e w1 ⟨rfl, rfl⟩)
          go_ret
          rw [HNO.out]
          exact ⟨rfl, rfl⟩
        · have h122 : (122 : Int) < (s[k].toNat : Int) := by omega
          go_wp2_with (go_at_call 132; refine (specFigure _ _).mono ?_; rintro e w1 ⟨rfl, rfl⟩)
          go_ret
          rw [HNO.out]
          exact ⟨rfl, rfl⟩
    · have HE : Hid (inB (s.size : Int) 1 8 = isItem s.data.toList) := by
        show _ = _
        by_cases hl : 1 ≤ s.size ∧ s.size ≤ 8
        · rw [isItem_yes hl (fun j hj => hall.out j hj (by omega)), inB_yes (by omega)]
        · rw [isItem_len_no hl, inB_no (by omega)]
      go_wp2_with (go_at_call 90; refine (specIn _ _ _ _).mono ?_; rintro e w1 ⟨rfl, rfl⟩)
      go_ret
      rw [HE.out]
      exact ⟨rfl, rfl⟩

end Go.Proofs.YtpddholoehmjkaaGreatDoor

set_option linter.unusedVariables false
namespace Go.Proofs.YtpddholoehmjkaaGreatDoor
open Go.RowKit

def itemsOkB (ss : List ByteArray) : Bool := decide (ss.length ≤ 40) && ss.all fun s => isItem s.data.toList
theorem itemsOk_len {ss : List ByteArray} (h : itemsOkB ss = true) : ss.length ≤ 40 := by
  simp only [itemsOkB, Bool.and_eq_true, decide_eq_true_eq] at h
  exact h.1
theorem itemsOk_at {ss : List ByteArray} (h : itemsOkB ss = true) (i : Nat) (hi : i < ss.length) : isItem (ss.getD i ByteArray.empty).data.toList = true := by
  simp only [itemsOkB, Bool.and_eq_true, List.all_eq_true] at h
  refine h.2 _ ?_
  simp [List.getElem?_eq_getElem hi]
theorem itemsOk_no {ss : List ByteArray} (i : Nat) (hi : i < ss.length) (h : isItem (ss.getD i ByteArray.empty).data.toList = false) : itemsOkB ss = false := by
  cases hh : itemsOkB ss with
  | false => rfl
  | true => rw [itemsOk_at hh i hi] at h; cases h
theorem itemsOk_yes {ss : List ByteArray} (h1 : ss.length ≤ 40) (h2 : ∀ i, i < ss.length → isItem (ss.getD i ByteArray.empty).data.toList = true) : itemsOkB ss = true := by
  simp only [itemsOkB, Bool.and_eq_true, List.all_eq_true, decide_eq_true_eq]
  refine ⟨h1, fun s hs => ?_⟩
  obtain ⟨i, hi, rfl⟩ := List.mem_iff_getElem.1 hs
  have := h2 i hi
  rw [List.getD_eq_getElem?_getD, List.getElem?_eq_getElem hi] at this
  exact this

set_option maxHeartbeats 1000000 in
set_option maxRecDepth 100000 in
theorem implItemsOk (g n cap : Nat) (ss : List ByteArray) (w : World) (h : AtS w g ss) (hn : n = ss.length) :
    Calls Tryz.prog 93 #[.slice (some ⟨g, 0, none⟩) n cap] w fun e w' => e = .returned (.bool (itemsOkB ss)) ∧ w = w' := by
  have HA : Hid (AtS w g ss) := h
  have HN : Hid (n = ss.length) := hn
  clear h hn
  by_cases h40 : (40 : Int) < (n : Int)
  · have HNO : Hid (itemsOkB ss = false) := by
      show _ = _
      cases hh : itemsOkB ss with
      | false => rfl
      | true => have := itemsOk_len hh; have := HN.out; omega
    rw [HNO.out]
    go_enter Tryz.func93, Tryz.ntmps93
    go_wp2_with fail
    go_ret
    exact ⟨rfl, rfl⟩
  · have hn40 : n ≤ 40 := by omega
    go_enter Tryz.func93, Tryz.ntmps93
    go_wp2_with fail
    go_loop [10] (fun i => ∃ k : Nat, k ≤ n ∧ i = .int .i64 (k : Int) ∧ Hid (∀ j, j < k → isItem (ss.getD j ByteArray.empty).data.toList = true)) (fun i => n - (intOf i).toNat)
    case atStart => exact ⟨0, by omega, rfl, fun j hj => by omega⟩
    case round =>
      obtain ⟨k, hk, rfl, HT⟩ := hrel
      by_cases hlt : k < n
      · have HK : Hid (k + 1 ≤ n) := hlt
        have hc := HA.out.2 k (by rw [← HN.out]; exact hlt)
        have lk : (k : Int) < (n : Int) := by omega
        obtain ⟨z, hz⟩ : ∃ z, z = ss.getD k ByteArray.empty := ⟨_, rfl⟩
        rw [← hz] at hc
        have HZ : Hid (z = ss.getD k ByteArray.empty) := hz
        clear hz
        cases hit : isItem z.data.toList with
        | true =>
          have HIT : Hid (isItem z.data.toList = true) := hit
          go_wp2_with (go_at_call 137; refine (implItemOk _ _).mono ?_; rintro e w1 ⟨rfl, rfl⟩)
          go_round
          case rel =>
            refine ⟨k + 1, HK.out, by go_num, fun j hj => ?_⟩
            rcases Nat.lt_or_ge j k with h' | h'
            · exact HT.out j h'
            · obtain rfl : j = k := by omega
              rw [← HZ.out]; exact HIT.out
          case measure => have := HK.out; simp [intOf]; omega
        | false =>
          have HNO : Hid (itemsOkB ss = false) := itemsOk_no k (by rw [← HN.out]; exact hlt) (by rw [← HZ.out]; exact hit)
          go_wp2_with (go_at_call 137; refine (implItemOk _ _).mono ?_; rintro e w1 ⟨rfl, rfl⟩)
          go_ret
          rw [HNO.out]
          exact ⟨rfl, rfl⟩
      · have HY : Hid (itemsOkB ss = true) := itemsOk_yes (by rw [← HN.out]; exact hn40) (fun i hi => HT.out i (by have := HN.out; omega))
        go_wp2_with fail
        go_ret
        rw [HY.out]
        exact ⟨rfl, rfl⟩

set_option maxHeartbeats 1000000 in
set_option maxRecDepth 100000 in
theorem specItems (g n cap : Nat) (ss : List ByteArray) (w : World) (h : AtS w g ss) (hn : n = ss.length) (hm : n ≤ 1073741824) (hs : ∀ i, i < ss.length → (ss.getD i ByteArray.empty).size ≤ maxLen) :
    Calls Tryz.prog 42 #[.slice (some ⟨g, 0, none⟩) n cap] w fun e w' => e = .returned (.bool (itemsOkB ss)) ∧ w = w' := by
  have HA : Hid (AtS w g ss) := h
  have HN : Hid (n = ss.length) := hn
  have HS : Hid (∀ i, i < ss.length → (ss.getD i ByteArray.empty).size ≤ maxLen) := hs
  clear h hn hs
  go_enter Tryz.func42, Tryz.ntmps42
  go_wp2_with fail
  go_loop [3] (fun i => ∃ k : Nat, k ≤ n ∧ i = .int .i64 (k : Int) ∧ Hid (∀ j, j < k → isItem (ss.getD j ByteArray.empty).data.toList = true)) (fun i => n - (intOf i).toNat)
  case atStart => exact ⟨0, by omega, rfl, fun j hj => by omega⟩
  case round =>
    obtain ⟨k, hk, rfl, HT⟩ := hrel
    by_cases hlt : k < n
    · have HK : Hid (k + 1 ≤ n) := hlt
      have hc := HA.out.2 k (by rw [← HN.out]; exact hlt)
      have hsz := HS.out k (by rw [← HN.out]; exact hlt)
      have lk : (k : Int) < (n : Int) := by omega
      obtain ⟨z, hz⟩ : ∃ z, z = ss.getD k ByteArray.empty := ⟨_, rfl⟩
      rw [← hz] at hc hsz
      have HZ : Hid (z = ss.getD k ByteArray.empty) := hz
      clear hz
      cases hit : isItem z.data.toList with
      | true =>
        have HIT : Hid (isItem z.data.toList = true) := hit
        go_wp2_with (go_at_call 85; refine (specItemOk _ _ hsz).mono ?_; rintro e w1 ⟨rfl, rfl⟩)
        go_round
        case rel =>
          refine ⟨k + 1, HK.out, by go_num, fun j hj => ?_⟩
          rcases Nat.lt_or_ge j k with h' | h'
          · exact HT.out j h'
          · obtain rfl : j = k := by omega
            rw [← HZ.out]; exact HIT.out
        case measure => have := HK.out; simp [intOf]; omega
      | false =>
        have HNO : Hid (itemsOkB ss = false) := itemsOk_no k (by rw [← HN.out]; exact hlt) (by rw [← HZ.out]; exact hit)
        go_wp2_with (go_at_call 85; refine (specItemOk _ _ hsz).mono ?_; rintro e w1 ⟨rfl, rfl⟩)
        go_ret
        rw [HNO.out]
        exact ⟨rfl, rfl⟩
    · have HY : Hid (itemsOkB ss = decide (n ≤ 40)) := by
        show _ = _
        by_cases h4 : n ≤ 40
        · rw [itemsOk_yes (by rw [← HN.out]; exact h4) (fun i hi => HT.out i (by have := HN.out; omega))]
          simp [h4]
        · cases hh : itemsOkB ss with
          | false => simp [h4]
          | true => have := itemsOk_len hh; have := HN.out; omega
      go_wp2_with fail
      go_ret
      rw [HY.out]
      exact ⟨by simp; omega, rfl⟩

end Go.Proofs.YtpddholoehmjkaaGreatDoor

set_option linter.unusedVariables false
namespace Go.Proofs.YtpddholoehmjkaaGreatDoor
open Go.RowKit

theorem rootItemB_16 (ss : List ByteArray) : ∀ s ∈ ss.map rootItemB, s.size = 16 := by
  intro s hs
  obtain ⟨x, _, rfl⟩ := List.mem_map.1 hs
  exact bsum_size _
theorem sumNil (w : World) : Calls Tryz.prog 134 #[.string ⟨#[]⟩] w fun e w' => e = .returned (.string (bsum [])) ∧ Below w.heap.size w w' := by
  have h : ∀ t : ByteArray, t = ⟨#[]⟩ → Calls Tryz.prog 134 #[.string t] w fun e w' => e = .returned (.string (bsum t.data.toList)) ∧ Below w.heap.size w w' := by
    intro t ht
    exact specSum t w (by rw [ht]; decide)
  exact h ⟨#[]⟩ rfl
/-- The root of items that are ok. -/
def rootL (ss : List ByteArray) : ByteArray := if ss = [] then bsum [] else rootR (ss.map rootItemB)

set_option maxHeartbeats 1000000 in
set_option maxRecDepth 100000 in
theorem specRoot (g n cap : Nat) (ss : List ByteArray) (w : World) (h : AtS w g ss) (hn : n = ss.length) (hm : n ≤ 1000000) (hs : ∀ i, i < ss.length → (ss.getD i ByteArray.empty).size ≤ 1048576) :
    Calls Tryz.prog 87 #[.slice (some ⟨g, 0, none⟩) n cap] w fun e w' => e = .returned (.string (rootL ss)) ∧ Below w.heap.size w w' := by
  have hrow := specRow g n cap ss w h hn hm hs
  obtain ⟨R, hRR⟩ : ∃ R, R = rootL ss := ⟨_, rfl⟩
  rw [← hRR]
  have HRR : Hid (R = rootL ss) := hRR
  clear hRR
  obtain ⟨rows, hrows⟩ : ∃ rows, rows = ss.map rootItemB := ⟨_, rfl⟩
  have H16 : Hid (∀ s ∈ rows, s.size = 16) := by rw [hrows]; exact rootItemB_16 ss
  have HRL : Hid (rows.length = ss.length) := by show _ = _; rw [hrows, List.length_map]
  have HRZ : Hid (ss ≠ [] → R = rootR rows) := by
    intro hne
    rw [HRR.out, rootL, if_neg hne, hrows]
  have HR0 : Hid (ss = [] → R = bsum []) := by
    intro he
    rw [HRR.out, rootL, if_pos he]
  rw [← hrows] at hrow
  have HN : Hid (n = ss.length) := hn
  clear hrows HRR hn h hs
  go_enter Tryz.func87, Tryz.ntmps87
  go_wp2_with fail
  refine hrow.mono ?_
  rintro e w1 ⟨v, rfl, hr, b1⟩
  have HB1 : Hid (Below w.heap.size w w1) := b1
  obtain ⟨g1, c1, rfl⟩ := hr.1
  have hlen : rows.length = n := by rw [HRL.out]; exact HN.out.symm
  have HR1 : Hid (SRow w.heap.size (.slice (some ⟨g1, 0, none⟩) rows.length c1) rows w1) := hr
  have HL : Hid (rows.length = n) := hlen
  rw [hlen]
  by_cases h0 : n = 0
  · have hne : ((n : Int) == 0) = true := by simp [h0]
    have HE : Hid (R = bsum []) := HR0.out (List.length_eq_zero_iff.1 (by rw [← HN.out]; exact h0))
    have hsum := sumNil w1
    clear HR0 HRZ
    generalize bsum [] = z at HE hsum
    clear hrow hr b1 hlen h0
    go_wp2_with fail
    refine hsum.mono ?_
    rintro e w2 ⟨rfl, b2⟩
    clear hsum
    go_wp2_with fail
    go_ret
    rw [HE.out]
    exact ⟨rfl, HB1.out.trans (b2.mono HB1.out.size)⟩
  · have hne : ((n : Int) == 0) = false := by simp; omega
    have HE : Hid (R = rootR rows) := HRZ.out (fun e => h0 (by rw [HN.out, e]; rfl))
    clear HR0 HRZ
    have HN0 : Hid (n ≠ 0) := h0
    clear hrow hr b1 hlen h0
    go_wp2_with fail
    go_loopw [3] (fun v wr => ∃ (rs : List ByteArray) (g2 c2 m : Nat), v = .slice (some ⟨g2, 0, none⟩) m c2 ∧ m ≤ n ∧ Hid (m = rs.length ∧ m ≠ 0) ∧ Hid (SRow w.heap.size v rs wr) ∧ Hid (∀ s ∈ rs, s.size = 16) ∧ Hid (rootR rs = rootR rows) ∧ Hid (Below w.heap.size w wr)) (fun v _ => sliceLen2 v)
    case atStart =>
      refine ⟨rows, g1, c1, n, rfl, Nat.le_refl _, ⟨HL.out.symm, HN0.out⟩, ?_, H16, rfl, HB1⟩
      have := HR1.out
      rw [HL.out] at this
      exact this
    case round =>
      obtain ⟨rs, g2, c2, m, rfl, hmn, HM, HR, H6, HT, HB⟩ := hrel
      have hat := HR.out.at
      by_cases h1 : 1 < m
      · have h1' : (1 : Int) < (m : Int) := by omega
        have hup := specUp g2 m c2 rs wr hat.1 HM.out.1 (by omega) H6.out
        have HU : Hid (rootR (upR rs) = rootR rows) := by
          show _ = _
          rw [← HT.out]
          exact (rootR_up (by have := HM.out.1; omega)).symm
        have HUL : Hid ((upR rs).length < m ∧ (upR rs).length ≠ 0) := by
          have := upR_length rs
          have := HM.out.1
          exact ⟨by omega, by omega⟩
        have HU6 : Hid (∀ s ∈ upR rs, s.size = 16) := upR_16 rs H6.out
        clear hat
        go_wp2_with fail
        refine hup.mono ?_
        rintro e w2 ⟨v2, rfl, hr2, b2⟩
        obtain ⟨g3, c3, rfl⟩ := hr2.1
        have HR2 : Hid (SRow wr.heap.size (.slice (some ⟨g3, 0, none⟩) (upR rs).length c3) (upR rs) w2) := hr2
        have HB2 : Hid (Below w.heap.size w w2) := HB.out.trans (b2.mono HB.out.size)
        clear hup hr2 b2
        obtain ⟨m2, hm2⟩ : ∃ m2, m2 = (upR rs).length := ⟨_, rfl⟩
        rw [← hm2] at HR2 HUL ⊢
        have HM2 : Hid (m2 = (upR rs).length) := hm2
        clear hm2
        go_wp2_with fail
        go_roundw
        case rel => exact ⟨upR rs, g3, c3, m2, rfl, by have := HUL.out; omega, ⟨HM2.out, HUL.out.2⟩, HR2.out.mono HB.out.size, HU6, HU, HB2⟩
        case measure => have := HUL.out; simp [sliceLen2]; omega
      · have h1' : ¬ (1 : Int) < (m : Int) := by omega
        have hm1 : m = 1 := by have := HM.out.2; omega
        subst hm1
        have hc := hat.1.2 0 (by rw [← HM.out.1]; omega)
        have HV : Hid (rs.getD 0 ByteArray.empty = rootR rows) := by
          show _ = _
          rw [← HT.out, rootR_one (by rw [← HM.out.1]; omega)]
        generalize rs.getD 0 ByteArray.empty = z at hc HV
        clear hat
        go_wp2_with fail
        go_ret
        rw [HE.out, ← HV.out]
        exact ⟨rfl, HB.out⟩


/-- What RootOf answers. -/
def rootOf (ss : List ByteArray) : ByteArray := if itemsOkB ss = true then rootL ss else ⟨#[]⟩
theorem rootOf_yes {ss : List ByteArray} (h : itemsOkB ss = true) : rootOf ss = rootL ss := by rw [rootOf, if_pos h]
theorem rootOf_no {ss : List ByteArray} (h : itemsOkB ss = false) : rootOf ss = ⟨#[]⟩ := by rw [rootOf, if_neg (by rw [h]; decide)]
end Go.Proofs.YtpddholoehmjkaaGreatDoor

set_option linter.unusedVariables false
namespace Go.Proofs.YtpddholoehmjkaaGreatDoor
open Go.RowKit

theorem implSumNil (w : World) (hK : RowG w shaK) : Calls Tryz.prog 67 #[.string ⟨#[]⟩] w fun e w' => e = .returned (.string (bsum [])) ∧ Below w.heap.size w w' := by
  have h : ∀ t : ByteArray, t = ⟨#[]⟩ → Calls Tryz.prog 67 #[.string t] w fun e w' => e = .returned (.string (bsum t.data.toList)) ∧ Below w.heap.size w w' := by
    intro t ht
    exact implSum t w (by rw [ht]; decide) hK
  exact h ⟨#[]⟩ rfl
theorem rootL_nil {ss : List ByteArray} (h : ss = []) : rootL ss = bsum [] := by rw [rootL, if_pos h]
theorem rootL_cons {ss : List ByteArray} (h : ss ≠ []) : rootL ss = rootR (ss.map rootItemB) := by rw [rootL, if_neg h]

set_option maxHeartbeats 1000000 in
set_option maxRecDepth 100000 in
theorem implRootOf (g n cap : Nat) (ss : List ByteArray) (w : World) (h : AtS w g ss) (hn : n = ss.length) (hK : RowG w shaK) :
    Calls Tryz.prog 50 #[.slice (some ⟨g, 0, none⟩) n cap] w fun e w' => e = .returned (.string (rootOf ss)) ∧ Below w.heap.size w w' := by
  obtain ⟨i0, hi, hz0, hz1, hz2⟩ := info_parts infoStr
  have hit := implItemsOk g n cap ss w h hn
  cases hok : itemsOkB ss with
  | false =>
    rw [hok] at hit
    rw [rootOf_no hok]
    clear hok h hn hK
    go_enter Tryz.func50, Tryz.ntmps50
    go_wp2_with (go_at_call 93; refine hit.mono ?_; rintro e w1 ⟨rfl, rfl⟩)
    go_ret
    exact ⟨rfl, Below.refl _ _⟩
  | true =>
    rw [hok] at hit
    rw [rootOf_yes hok]
    have hn40 : n ≤ 40 := by rw [hn]; exact itemsOk_len hok
    have HKG : Hid (RowG w shaK) := hK
    by_cases h0 : n = 0
    · have hq : ((n : Int) == 0) = true := by simp [h0]
      rw [rootL_nil (List.length_eq_zero_iff.1 (by omega))]
      have hsum := implSumNil w hK
      generalize bsum [] = z at hsum
      clear hok h hn hK h0
      go_enter Tryz.func50, Tryz.ntmps50
      go_wp2_with (go_at_call 93; refine hit.mono ?_; rintro e w1 ⟨rfl, rfl⟩)
      refine hsum.mono ?_
      rintro e w2 ⟨rfl, b2⟩
      go_wp2_with fail
      go_ret
      exact ⟨rfl, b2⟩
    · have hq : ((n : Int) == 0) = false := by simp; omega
      have HN0 : Hid (n ≠ 0) := h0
      rw [rootL_cons (fun e => h0 (by rw [hn, e]; rfl))]
      have HA : Hid (AtS w g ss) := h
      have HN : Hid (n = ss.length) := hn
      have HS : Hid (∀ i, i < ss.length → (ss.getD i ByteArray.empty).size ≤ 1048576) := by
        intro i hi
        have := isItem_size (itemsOk_at hok i hi)
        omega
      have hmk := makeCapS n (by omega)
      obtain ⟨R, hR⟩ : ∃ R, R = rootR (ss.map rootItemB) := ⟨_, rfl⟩
      rw [← hR]
      have HR0 : Hid (R = rootR (ss.map rootItemB)) := hR
      have HW0 : Hid (SRow w.heap.size (.slice (some ⟨w.heap.size, 0, none⟩) 0 n) ((ss.take 0).map rootItemB) (w.alloc (.cells (sCells (List.replicate n ⟨#[]⟩)) 9))) := srow_cap w n (by omega)
      have HB0 : Hid (Below w.heap.size w (w.alloc (.cells (sCells (List.replicate n ⟨#[]⟩)) 9))) := (Below.refl _ w).alloc (Nat.le_refl _) _
      clear hok h hn hK h0 hR
      go_enter Tryz.func50, Tryz.ntmps50
      go_wp2_with (go_at_call 93; refine hit.mono ?_; rintro e w1 ⟨rfl, rfl⟩)
      clear hit hmk
      go_loopw [3, 18] (fun v i wr => ∃ (k : Nat), k ≤ n ∧ i = .int .i64 (k : Int) ∧ Hid (SRow w.heap.size v ((ss.take k).map rootItemB) wr) ∧ Hid (Below w.heap.size w wr)) (fun _ i _ => n - (intOf i).toNat)
      case atStart => exact ⟨0, by omega, rfl, HW0, HB0⟩
      case round =>
        clear HW0 HB0
        obtain ⟨k, hk, rfl, HR, HB⟩ := hrel
        obtain ⟨⟨g3, c3, rfl⟩, hrow⟩ := HR.out
        by_cases hlt : k < n
        · have hkl : k < ss.length := by rw [← HN.out]; exact hlt
          have hc : wr.cell? ⟨g, k, none⟩ = some (.string (ss.getD k ByteArray.empty)) := by
            rw [HB.out.cell (p := ⟨g, k, none⟩) HA.out.1]
            exact HA.out.2 k hkl
          have hsz := HS.out k hkl
          obtain ⟨z, hz⟩ : ∃ z, z = ss.getD k ByteArray.empty := ⟨_, rfl⟩
          rw [← hz] at hc hsz
          have HE : Hid ((ss.take (k + 1)).map rootItemB = (ss.take k).map rootItemB ++ [rootItemB z]) := by
            show _ = _
            rw [List.take_add_one, List.getElem?_eq_getElem hkl, List.map_append, hz, List.getD_eq_getElem?_getD, List.getElem?_eq_getElem hkl]
            rfl
          have hlen : ((ss.take k).map rootItemB).length = k := by simp; omega
          rw [hlen] at hrow ⊢
          have HRW : Hid (wr.ownsRow w.heap.size 9 1 (.slice (some ⟨g3, 0, none⟩) k c3) k (((ss.take k).map rootItemB).map Value.string)) := hrow
          have HLN : Hid (((ss.take k).map rootItemB).length = k) := hlen
          have HK : Hid (k + 1 ≤ n) := hlt
          have lk : (k : Int) < (n : Int) := by omega
          have hsum := implRootItem z wr hsz (HKG.out.below HB.out HKG.out.lt)
          generalize rootItemB z = rz at hsum HE
          clear hz hrow hlen hkl
          have hx1 : k + 1 ≤ maxLen := by unfold maxLen; omega
          have hx2 : (k + 1) * 16 ≤ 140737488355328 := by omega
          go_wp2_with fail
          refine hsum.mono ?_
          rintro e w1 ⟨rfl, b1⟩
          have HRW1 : Hid (w1.ownsRow w.heap.size 9 1 (.slice (some ⟨g3, 0, none⟩) k c3) k (((ss.take k).map rootItemB).map Value.string)) := row_below HRW.out b1
          have HB1 : Hid (Below w.heap.size w w1) := HB.out.trans (b1.mono HB.out.size)
          have hsz1 := HB1.out.size
          clear b1 hsum
          go_wp2_with (at_builtin; refine wp_app1 rfl _ _ 23 rfl w.heap.size 9 i0 (.string ⟨#[]⟩) 16 Tryz.underlying23 hi hz0 hz1 hz2 rfl _ _ _ rfl HRW1.out (.string rz) rfl rfl hx1 hx2 hsz1 ?_; intro g4 c4 w4 hown4 hb4 _)
          go_roundw
          case rel =>
            refine ⟨k + 1, HK.out, by go_num, ⟨⟨g4, c4, ?_⟩, ?_⟩, HB1.out.trans hb4⟩
            · rw [HE.out, List.length_append, HLN.out]; rfl
            · rw [HE.out, List.length_append, HLN.out, List.map_append]; exact hown4
          case measure => have := HK.out; simp [intOf]; omega
        · have HE : Hid ((ss.take k).map rootItemB = ss.map rootItemB) := by
            show _ = _
            rw [List.take_of_length_le (by rw [← HN.out]; omega)]
          have hle : ((ss.take k).map rootItemB).length ≤ c3 := by
            rcases hrow.2 with ⟨h5, _⟩ | ⟨g', cap', cur, hv, _, _, h6, _⟩
            · cases h5
            · simp only [Value.slice.injEq, Option.some.injEq, Addr.mk.injEq, and_true] at hv
              rw [hv.2.2]; exact h6
          have hlen : ((ss.take k).map rootItemB).length = n := by rw [HE.out, List.length_map]; exact HN.out.symm
          have hat := HR.out.at
          rw [HE.out] at hat
          rw [hlen] at hle ⊢
          have htop := implTop g3 n c3 (ss.map rootItemB) wr hat.1 (by rw [List.length_map]; exact HN.out) hle (by omega) HN0.out (rootItemB_16 ss) (HKG.out.below HB.out HKG.out.lt)
          rw [← HR0.out] at htop
          clear hrow hlen hat
          go_wp2_with fail
          refine htop.mono ?_
          rintro e w2 ⟨rfl, b2⟩
          go_wp2_with fail
          go_ret
          exact ⟨rfl, HB.out.trans (b2.mono HB.out.size)⟩

end Go.Proofs.YtpddholoehmjkaaGreatDoor

set_option linter.unusedVariables false
namespace Go.Proofs.YtpddholoehmjkaaGreatDoor
open Go.ChangeShapes Go.WideShapes Go.ChangeAt Go.RowKit Go.Deep

structure SideV where
  sum : ByteArray
  left : Bool
instance : Inhabited SideV := ⟨⟨⟨#[]⟩, false⟩⟩
def enSide (p : SideV) : List Value := [.string p.sum, .bool p.left]
theorem enSide_len (p : SideV) : (enSide p).length = 2 := rfl
/-- Its texts can be held. -/
def wfSide (p : SideV) : Prop := p.sum.size ≤ maxLen
/-- Its texts are small. -/
def smallSide (p : SideV) : Prop := p.sum.size ≤ 1048576
abbrev IsSides (w : World) (a : Option Addr) (len cap : Nat) (l : List SideV) : Prop := IsFlat enSide wfSide 2 w a len cap l
abbrev AtSide (w : World) (g : Nat) (l : List SideV) : Prop := AtF enSide 2 w g l
theorem AtSide.c0 {w : World} {g : Nat} {l : List SideV} (h : AtSide w g l) (i : Nat) (hi : i < l.length) : w.cell? ⟨g, i * 2, none⟩ = some (.string (l.getD i default).sum) := h.2 i 0 hi (by decide)
theorem AtSide.c1 {w : World} {g : Nat} {l : List SideV} (h : AtSide w g l) (i : Nat) (hi : i < l.length) : w.cell? ⟨g, i * 2 + 1, none⟩ = some (.bool (l.getD i default).left) := h.2 i 1 hi (by decide)
theorem cellsSide {w : World} {x : Addr} {p : SideV} (h : ∀ j, j < 2 → w.cell? (x.add j) = (enSide p)[j]?) : w.cell? x = some (.string p.sum) ∧ w.cell? ⟨x.block, x.off + 1, none⟩ = some (.bool p.left) := by
  exact ⟨h 0 (by decide), h 1 (by decide)⟩
theorem partsSide {cs : List Value} {a0 a1 : Value} (hl : cs.length = 2) (h0 : (cs.drop 0).take 1 = [a0]) (h1 : (cs.drop 1).take 1 = [a1]) : cs = [a0, a1] := by
  match cs, hl with
  | [x0, x1], _ =>
    simp at h0 h1
    subst h0 h1
    rfl
theorem oneSide_b : Tryz.prog.cellsOf 4 = 1 := by kernel_rfl
theorem oneSide_s : Tryz.prog.cellsOf 9 = 1 := by kernel_rfl
theorem alloc3_midS (w : World) (o1 o2 o3 : Obj) : (((w.alloc o1).alloc o2).alloc o3).heap[w.heap.size + 1]? = some o2 := by
  have e : w.heap.size + 1 = (w.alloc o1).heap.size := by simp
  rw [e, Below.heap_alloc _ _ _ (by simp)]
  exact heap_alloc_new _ _
def zeroSide : SideV := ⟨⟨#[]⟩, false⟩
end Go.Proofs.YtpddholoehmjkaaGreatDoor

set_option linter.unusedVariables false
namespace Go.Proofs.YtpddholoehmjkaaGreatDoor
open Go.RowKit Go.Deep

theorem sameB (a b : ByteArray) : (a.toList == b.toList) = decide (a = b) := by
  rw [Bool.eq_iff_iff, beq_iff_eq, decide_eq_true_eq, ByteArray.toList_eq, ByteArray.toList_eq]
  constructor
  · intro h
    exact ByteArray.ext (by simpa using h)
  · intro h
    rw [h]
def sideOkB (x : SideV) : Bool := isSum x.sum.data.toList
def sidesOkB (l : List SideV) : Bool := decide (l.length ≤ 8) && (List.range l.length).all fun i => sideOkB (l.getD i default)
theorem sidesOk_no {l : List SideV} (i : Nat) (hi : i < l.length) (h : sideOkB (l.getD i default) = false) : sidesOkB l = false := by
  have : ((List.range l.length).all fun i => sideOkB (l.getD i default)) = false := by
    rw [List.all_eq_false]
    exact ⟨i, List.mem_range.2 hi, by rw [h]; decide⟩
  rw [sidesOkB, this, Bool.and_false]
theorem sidesOk_long {l : List SideV} (h : ¬ l.length ≤ 8) : sidesOkB l = false := by rw [sidesOkB, decide_eq_false h, Bool.false_and]
theorem sidesOk_yes {l : List SideV} (h : l.length ≤ 8) (h2 : ∀ i, i < l.length → sideOkB (l.getD i default) = true) : sidesOkB l = true := by
  rw [sidesOkB, decide_eq_true h, Bool.true_and, List.all_eq_true]
  exact fun i hi => h2 i (List.mem_range.1 hi)
theorem sidesOk_at {l : List SideV} (h : sidesOkB l = true) : l.length ≤ 8 ∧ ∀ i, i < l.length → sideOkB (l.getD i default) = true := by
  rw [sidesOkB, Bool.and_eq_true, decide_eq_true_eq, List.all_eq_true] at h
  exact ⟨h.1, fun i hi => h.2 i (List.mem_range.2 hi)⟩
def stepS (s : ByteArray) (x : SideV) : ByteArray := if x.left = true then bothB x.sum s else bothB s x.sum
def wayTo (s : ByteArray) (l : List SideV) : Nat → ByteArray
  | 0 => s
  | k + 1 => stepS (wayTo s l k) (l.getD k default)
theorem wayTo_size {s : ByteArray} (hs : s.size = 16) (l : List SideV) : ∀ k, (wayTo s l k).size = 16
  | 0 => hs
  | k + 1 => by
    show (stepS _ _).size = 16
    unfold stepS
    split <;> exact bsum_size _
def rootCheckB (root item : ByteArray) (l : List SideV) : Bool := isItem item.data.toList && (sidesOkB l && decide (wayTo (rootItemB item) l l.length = root))

end Go.Proofs.YtpddholoehmjkaaGreatDoor

set_option linter.unusedVariables false
namespace Go.Proofs.YtpddholoehmjkaaGreatDoor

section
variable {P : Program} {l : List Oper} {Q : Exit → Act → World → Prop} {md : Region.Mode} {S : World → Prop}
theorem takeL (i : Nat) {oi : Oper} {v : Value} {fuel : Nat} {listed : Array Bool} {a : Act} {w : World} (hi : l[i]? = some oi)
    (hs : Region.noSelect l.toArray = true) (hf : Region.free md l.toArray listed i = true) (hr : (Region.ready md l.toArray listed).contains i = true)
    (hQ : ∀ c a w, Q (.panic c) (a.put oi.dst v) w → Q (.panic c) a w) (hw : Region.wanted oi (yielded l.toArray a.tmps) = true) (hy : ∀ w, S w → (execOp a.eval oi).run P w = .ok (.value v) w) (hS : S w)
    (h : wpAnyH P md l.toArray Q S fuel (listed.setIfInBounds i true) (a.put oi.dst v) w) : wpAnyH P md l.toArray Q S (fuel + 1) listed a w :=
  wpAnyH_take (by simpa using hi) hs hf hr hQ (Or.inl ⟨hw, hy⟩) hS h
theorem skipL (i : Nat) {oi : Oper} {fuel : Nat} {listed : Array Bool} {a : Act} {w : World} (hi : l[i]? = some oi)
    (hs : Region.noSelect l.toArray = true) (hf : Region.free md l.toArray listed i = true) (hr : (Region.ready md l.toArray listed).contains i = true)
    (hQ : ∀ c a w, Q (.panic c) (a.put oi.dst undef) w → Q (.panic c) a w) (hw : Region.wanted oi (yielded l.toArray a.tmps) = false) (hS : S w)
    (h : wpAnyH P md l.toArray Q S fuel (listed.setIfInBounds i true) (a.put oi.dst undef) w) : wpAnyH P md l.toArray Q S (fuel + 1) listed a w :=
  wpAnyH_take (by simpa using hi) hs hf hr hQ (Or.inr ⟨hw, rfl⟩) hS h
theorem callL (i : Nat) {o : Oper} {fuel : Nat} {listed : Array Bool} {a : Act} {w : World} (ho : l[i]? = some o) (hr : Region.ready md l.toArray listed = [i])
    (h : ∀ K' : Act → World → Prop, Shut (∀ a w, S w → (S w → wpAnyH P md l.toArray Q S fuel (listed.setIfInBounds i true) a w) → K' a w) → if Region.wanted o (yielded l.toArray a.tmps) = true then Oper.wp P o a w K' Q else K' (a.put o.dst undef) w) : wpAnyH P md l.toArray Q S (fuel + 1) listed a w :=
  wpAnyH_ready hr (by simp) (AllReadyH.cons (by simpa using ho) h AllReadyH.nil)
end

end Go.Proofs.YtpddholoehmjkaaGreatDoor

