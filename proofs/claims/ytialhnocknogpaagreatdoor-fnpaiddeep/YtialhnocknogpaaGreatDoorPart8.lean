/-
  Texts that the last part needs, joined.
-/
import Derived.Test.YtialhnocknogpaaGreatDoorPart1
import Derived.Test.YtialhnocknogpaaGreatDoorPart2
import Derived.Test.YtialhnocknogpaaGreatDoorPart3
import Derived.Test.YtialhnocknogpaaGreatDoorPart4
import Derived.Test.YtialhnocknogpaaGreatDoorPart5
import Derived.Test.YtialhnocknogpaaGreatDoorPart6
import Derived.Test.YtialhnocknogpaaGreatDoorPart7
import Derived.Deep.RegionHeld3
import Derived.Deep.AppendLies
import Derived.Deep.Cut
import Derived.Laws.EntriesVeiled
import Derived.WalkSmall
import Derived.Test.YtialhnocknogpaaGreatDoorProg
import Derived.Deep.RegionWith
import Derived.Laws.Strings
import Derived.BigRegion
import Derived.WalkKit
import Derived.LaidEql
import Derived.Stop.Asserts
import Derived.RowKitTokens
import Derived.Below
import Derived.Lib.SmallJoins
import Derived.OwnWalk
set_option linter.unusedVariables false
namespace Go.Proofs.YtialhnocknogpaaGreatDoor
open Go.RowKit

/-- A sum, and whether the item that is proved is below it. -/
abbrev NodeB := ByteArray × Bool
def bothNB (a b : NodeB) : NodeB := (bothB a.1 b.1, a.2 || b.2)
def noteNB (a b : NodeB) : List SideV := (if a.2 = true then [⟨b.1, false⟩] else []) ++ (if b.2 = true then [⟨a.1, true⟩] else [])
def upN : List NodeB → List NodeB
  | a :: b :: r => bothNB a b :: upN r
  | l => l
def noteU : List NodeB → List SideV
  | a :: b :: r => noteNB a b ++ noteU r
  | _ => []
def mkN : List ByteArray → Nat → Nat → List NodeB
  | [], _, _ => []
  | s :: r, o, x => (s, decide (o = x)) :: mkN r (o + 1) x
theorem mkN_len : ∀ (ss : List ByteArray) (o x : Nat), (mkN ss o x).length = ss.length
  | [], _, _ => rfl
  | s :: r, o, x => by rw [mkN, List.length_cons, mkN_len r, List.length_cons]
theorem mkN_snoc : ∀ (ss : List ByteArray) (s : ByteArray) (o x : Nat), mkN (ss ++ [s]) o x = mkN ss o x ++ [(s, decide (o + ss.length = x))]
  | [], s, o, x => by simp [mkN]
  | a :: r, s, o, x => by
    rw [List.cons_append, mkN, mkN_snoc r s (o + 1) x, mkN, List.cons_append, List.length_cons]
    congr 4
    rw [show o + 1 + r.length = o + (r.length + 1) from by omega]
theorem mkN_fst : ∀ (ss : List ByteArray) (o x : Nat), (mkN ss o x).map Prod.fst = ss
  | [], _, _ => rfl
  | s :: r, o, x => by rw [mkN, List.map_cons, mkN_fst r]
theorem upN_fst : ∀ l : List NodeB, (upN l).map Prod.fst = upR (l.map Prod.fst)
  | [] => rfl
  | [a] => rfl
  | a :: b :: r => by
    rw [upN, List.map_cons, upN_fst r]
    rfl
theorem upN_len (l : List NodeB) : (upN l).length = (l.length + 1) / 2 := by
  have h := upR_length (l.map Prod.fst)
  rw [← upN_fst, List.length_map, List.length_map] at h
  exact h
theorem upN_mk : ∀ (ss : List ByteArray) (o x : Nat), x < 2 * o + ss.length → upN (mkN ss (2 * o) x) = mkN (upR ss) o (x / 2)
  | [], _, _, _ => rfl
  | [a], o, x, h => by
    have e : decide (2 * o = x) = decide (o = x / 2) := by
      simp only [List.length_singleton] at h
      rw [decide_eq_decide]
      omega
    show [(a, decide (2 * o = x))] = [(a, decide (o = x / 2))]
    rw [e]
  | a :: b :: r, o, x, h => by
    have ih := upN_mk r (o + 1) x (by simp only [List.length_cons] at h; omega)
    have e : (decide (2 * o = x) || decide (2 * o + 1 = x)) = decide (o = x / 2) := by
      rw [← Bool.decide_or, decide_eq_decide]
      omega
    show bothNB (a, decide (2 * o = x)) (b, decide (2 * o + 1 = x)) :: upN (mkN r (2 * (o + 1)) x) = (bothB a b, decide (o = x / 2)) :: mkN (upR r) (o + 1) (x / 2)
    rw [ih, bothNB, e]
/-- The side beside the marked one of a row that begins at place 2 * o. -/
def sideV (ss : List ByteArray) (o x : Nat) : List SideV := if 2 * o ≤ x then (if x + 1 - x % 2 * 2 < 2 * o + ss.length then [⟨ss.getD (x + 1 - x % 2 * 2 - 2 * o) ByteArray.empty, decide (x + 1 - x % 2 * 2 < x)⟩] else []) else []
theorem sideV_low {ss : List ByteArray} {o x : Nat} (h : ¬ 2 * o ≤ x) : sideV ss o x = [] := by rw [sideV, if_neg h]
theorem noteU_mk : ∀ (ss : List ByteArray) (o x : Nat), x < 2 * o + ss.length → noteU (mkN ss (2 * o) x) = sideV ss o x
  | [], o, x, h => by
    rw [sideV_low (by simp only [List.length_nil] at h; omega)]
    rfl
  | [a], o, x, h => by
    simp only [List.length_singleton] at h
    by_cases hx : 2 * o ≤ x
    · obtain rfl : x = 2 * o := by omega
      rw [sideV, if_pos (Nat.le_refl _), if_neg (by simp only [List.length_singleton]; omega)]
      rfl
    · rw [sideV_low hx]
      rfl
  | a :: b :: r, o, x, h => by
    have ih := noteU_mk r (o + 1) x (by simp only [List.length_cons] at h; omega)
    show noteNB (a, decide (2 * o = x)) (b, decide (2 * o + 1 = x)) ++ noteU (mkN r (2 * (o + 1)) x) = sideV (a :: b :: r) o x
    rw [ih]
    simp only [List.length_cons] at h
    by_cases h0 : x = 2 * o
    · subst h0
      have e1 : 2 * o + 1 - 2 * o % 2 * 2 = 2 * o + 1 := by omega
      rw [sideV_low (by omega), sideV, if_pos (Nat.le_refl _), e1, if_pos (by simp only [List.length_cons]; omega), show 2 * o + 1 - 2 * o = 1 from by omega, decide_eq_false (show ¬ 2 * o + 1 < 2 * o by omega), noteNB, decide_eq_true rfl, decide_eq_false (show ¬ 2 * o + 1 = 2 * o by omega)]
      rfl
    · by_cases h1 : x = 2 * o + 1
      · subst h1
        have e1 : 2 * o + 1 + 1 - (2 * o + 1) % 2 * 2 = 2 * o := by omega
        rw [sideV_low (by omega), sideV, if_pos (show 2 * o ≤ 2 * o + 1 by omega), e1, if_pos (by simp only [List.length_cons]; omega), Nat.sub_self, decide_eq_true (show 2 * o < 2 * o + 1 by omega), noteNB, decide_eq_true rfl, decide_eq_false (show ¬ 2 * o = 2 * o + 1 by omega)]
        rfl
      · rw [noteNB, decide_eq_false (show ¬ 2 * o = x by omega), decide_eq_false (show ¬ 2 * o + 1 = x by omega)]
        show sideV r (o + 1) x = sideV (a :: b :: r) o x
        by_cases h2 : 2 * (o + 1) ≤ x
        · rw [sideV, sideV, if_pos h2, if_pos (show 2 * o ≤ x by omega)]
          simp only [List.length_cons]
          by_cases h3 : x + 1 - x % 2 * 2 < 2 * o + (r.length + 1 + 1)
          · rw [if_pos h3, if_pos (by omega)]
            have e2 : x + 1 - x % 2 * 2 - 2 * o = (x + 1 - x % 2 * 2 - 2 * (o + 1)) + 1 + 1 := by omega
            rw [e2, List.getD_cons_succ, List.getD_cons_succ]
          · rw [if_neg h3, if_neg (by omega)]
        · rw [sideV_low h2, sideV_low (by omega)]
/-- All sides of the marked one, row by row. -/
def sidesR : Nat → List ByteArray → Nat → List SideV
  | 0, _, _ => []
  | f + 1, ss, x => if ss.length ≤ 1 then [] else sideV ss 0 x ++ sidesR f (upR ss) (x / 2)
def noteT : Nat → List NodeB → List SideV
  | 0, _ => []
  | f + 1, r => if r.length ≤ 1 then [] else noteU r ++ noteT f (upN r)
theorem noteT_mk : ∀ (f : Nat) (ss : List ByteArray) (x : Nat), x < ss.length → noteT f (mkN ss 0 x) = sidesR f ss x
  | 0, _, _, _ => rfl
  | f + 1, ss, x, h => by
    have h1 := upN_mk ss 0 x (by omega)
    have h2 := noteU_mk ss 0 x (by omega)
    have h3 := upR_length ss
    rw [noteT, sidesR, mkN_len]
    split
    · rfl
    · rw [show (0 : Nat) = 2 * 0 from rfl, h2, h1, noteT_mk f (upR ss) (x / 2) (by omega)]
theorem noteT_done {f : Nat} {r : List NodeB} (h : r.length ≤ 1) : noteT f r = [] := by
  cases f with
  | zero => rfl
  | succ f => rw [noteT, if_pos h]
theorem noteT_step {f : Nat} {r : List NodeB} (h : ¬ r.length ≤ 1) : noteT (f + 1) r = noteU r ++ noteT f (upN r) := by rw [noteT, if_neg h]
theorem sidesR_done {f : Nat} {r : List ByteArray} {x : Nat} (h : r.length ≤ 1) : sidesR f r x = [] := by
  cases f with
  | zero => rfl
  | succ f => rw [sidesR, if_pos h]
theorem sidesR_step {f : Nat} {r : List ByteArray} {x : Nat} (h : ¬ r.length ≤ 1) : sidesR (f + 1) r x = sideV r 0 x ++ sidesR f (upR r) (x / 2) := by rw [sidesR, if_neg h]
theorem upN_append : ∀ (l m : List NodeB), l.length % 2 = 0 → upN (l ++ m) = upN l ++ upN m
  | [], m, _ => by simp [upN]
  | [a], m, h => by simp at h
  | a :: b :: r, m, h => by
    have ih := upN_append r m (by simp at h; omega)
    simp [upN, ih]
theorem noteU_append : ∀ (l m : List NodeB), l.length % 2 = 0 → noteU (l ++ m) = noteU l ++ noteU m
  | [], m, _ => by simp [noteU]
  | [a], m, h => by simp at h
  | a :: b :: r, m, h => by
    have ih := noteU_append r m (by simp at h; omega)
    simp [noteU, ih]
theorem takeB_two (l : List NodeB) (k : Nat) (hk : k + 1 < l.length) (he : k % 2 = 0) : upN (l.take (k + 2)) = upN (l.take k) ++ [bothNB (l.getD k default) (l.getD (k + 1) default)] ∧ noteU (l.take (k + 2)) = noteU (l.take k) ++ noteNB (l.getD k default) (l.getD (k + 1) default) := by
  have e : l.take (k + 2) = l.take k ++ [l.getD k default, l.getD (k + 1) default] := by
    rw [show k + 2 = (k + 1) + 1 from rfl, List.take_add_one, List.take_add_one, List.getElem?_eq_getElem (by omega), List.getElem?_eq_getElem hk, List.append_assoc]
    simp [List.getElem?_eq_getElem hk, List.getElem?_eq_getElem (show k < l.length by omega)]
  rw [e, upN_append _ _ (by simp; omega), noteU_append _ _ (by simp; omega)]
  exact ⟨rfl, by simp [noteU]⟩
theorem takeB_rest (l : List NodeB) (k : Nat) (hk : l.length ≤ k + 1) (he : k % 2 = 0) (hkl : k ≤ l.length) : upN l = upN (l.take k) ++ l.drop k ∧ noteU l = noteU (l.take k) := by
  have hd : (l.drop k).length ≤ 1 := by simp; omega
  have e1 : upN (l.drop k) = l.drop k := by
    match l.drop k, hd with
    | [], _ => rfl
    | [a], _ => rfl
  have e2 : noteU (l.drop k) = [] := by
    match l.drop k, hd with
    | [], _ => rfl
    | [a], _ => rfl
  constructor
  · conv => lhs; rw [← List.take_append_drop k l]
    rw [upN_append _ _ (by simp; omega), e1]
  · conv => lhs; rw [← List.take_append_drop k l]
    rw [noteU_append _ _ (by simp; omega), e2, List.append_nil]
theorem noteNB_len (a b : NodeB) : (noteNB a b).length ≤ 2 := by
  unfold noteNB
  rw [List.length_append]
  split <;> split <;> simp
theorem noteU_len : ∀ l : List NodeB, (noteU l).length ≤ 2 * (l.length / 2)
  | [] => Nat.le_refl _
  | [a] => Nat.zero_le _
  | a :: b :: r => by
    have h1 := noteNB_len a b
    have h2 := noteU_len r
    rw [noteU, List.length_append, List.length_cons, List.length_cons]
    omega
theorem noteT_len : ∀ (f : Nat) (r : List NodeB), (noteT f r).length ≤ 2 * r.length
  | 0, _ => Nat.zero_le _
  | f + 1, r => by
    rw [noteT]
    split
    · exact Nat.zero_le _
    · have h1 := noteU_len r
      have h2 := noteT_len f (upN r)
      have h3 := upN_len r
      rw [List.length_append]
      omega
end Go.Proofs.YtialhnocknogpaaGreatDoor

set_option linter.unusedVariables false
namespace Go.Proofs.YtialhnocknogpaaGreatDoor
open Go.RowKit

set_option maxHeartbeats 1000000 in
set_option maxRecDepth 100000 in
theorem specRow (g n cap : Nat) (ss : List ByteArray) (w : World) (h : AtS w g ss) (hn : n = ss.length) (hm : n ≤ 1000000) (hs : ∀ i, i < ss.length → (ss.getD i ByteArray.empty).size ≤ 1048576) :
    Calls Tryz.prog 72 #[.slice (some ⟨g, 0, none⟩) n cap] w fun e w' => ∃ v, e = .returned v ∧ SRow w.heap.size v (ss.map rootItemB) w' ∧ Below w.heap.size w w' := by
  obtain ⟨i0, hi, hz0, hz1, hz2⟩ := info_parts infoStr
  have HA : Hid (AtS w g ss) := h
  have HN : Hid (n = ss.length) := hn
  have HS : Hid (∀ i, i < ss.length → (ss.getD i ByteArray.empty).size ≤ 1048576) := hs
  clear h hn hs
  go_enter Tryz.func72, Tryz.ntmps72
  go_wp2_with fail
  have HW0 : Hid (SRow w.heap.size (.slice (some ⟨w.heap.size, 0, none⟩) 0 0) ((ss.take 0).map rootItemB) (w.alloc (.cells #[] 9))) := srow_new w
  have HB0 : Hid (Below w.heap.size w (w.alloc (.cells #[] 9))) := (Below.refl _ w).alloc (Nat.le_refl _) _
  go_loopw [3, 4] (fun v i wr => ∃ k : Nat, k ≤ n ∧ i = .int .i64 (k : Int) ∧ Hid (SRow w.heap.size v ((ss.take k).map rootItemB) wr) ∧ Hid (Below w.heap.size w wr)) (fun _ i _ => n - (intOf i).toNat)
  case atStart => exact ⟨0, by omega, rfl, HW0, HB0⟩
  case round =>
    clear HW0 HB0
    obtain ⟨k, hk, rfl, HR, HB⟩ := hrel
    obtain ⟨⟨g3, c3, rfl⟩, hrow⟩ := HR.out
    by_cases hlt : k < n
    · have hkl : k < ss.length := by rw [← HN.out]; exact hlt
      have hc : wr.cell? ⟨g, k, none⟩ = some (.string (ss.getD k ByteArray.empty)) := by
        rw [HB.out.cell (p := ⟨g, k, none⟩) HA.out.1]
        exact HA.out.2 k hkl
      have hsz := HS.out k hkl
      obtain ⟨z, hz⟩ : ∃ z, z = ss.getD k ByteArray.empty := ⟨_, rfl⟩
      rw [← hz] at hc hsz
      have HE : Hid ((ss.take (k + 1)).map rootItemB = (ss.take k).map rootItemB ++ [rootItemB z]) := by
        show _ = _
        rw [List.take_add_one, List.getElem?_eq_getElem hkl, List.map_append, hz, List.getD_eq_getElem?_getD, List.getElem?_eq_getElem hkl]
        rfl
      have hlen : ((ss.take k).map rootItemB).length = k := by simp; omega
      rw [hlen] at hrow ⊢
      have HRW : Hid (wr.ownsRow w.heap.size 9 1 (.slice (some ⟨g3, 0, none⟩) k c3) k (((ss.take k).map rootItemB).map Value.string)) := hrow
      have HLN : Hid (((ss.take k).map rootItemB).length = k) := hlen
      have HK : Hid (k + 1 ≤ n) := hlt
      have lk : (k : Int) < (n : Int) := by omega
      have hsum := specSum ((⟨#[105, 116, 101, 109, 32]⟩ : ByteArray) ++ z) wr (by
        simp only [ByteArray.size_append]
        have e1 : (⟨#[105, 116, 101, 109, 32]⟩ : ByteArray).size = 5 := rfl
        omega)
      have et : ((⟨#[105, 116, 101, 109, 32]⟩ : ByteArray) ++ z).data.toList = [105, 116, 101, 109, 32] ++ z.data.toList := by simp
      rw [et] at hsum
      have er : (⟨(sumB ([105, 116, 101, 109, 32] ++ z.data.toList)).toArray⟩ : ByteArray) = rootItemB z := rfl
      rw [er] at hsum
      generalize rootItemB z = rz at hsum HE
      clear hz hrow hlen hkl et er
      have hx1 : k + 1 ≤ maxLen := by unfold maxLen; omega
      have hx2 : (k + 1) * 16 ≤ 140737488355328 := by omega
      go_wp2_with fail
      refine hsum.mono ?_
      rintro e w1 ⟨rfl, b1⟩
      have HRW1 : Hid (w1.ownsRow w.heap.size 9 1 (.slice (some ⟨g3, 0, none⟩) k c3) k (((ss.take k).map rootItemB).map Value.string)) := by
        refine World.ownsRow.kept HRW.out ⟨b1.os, b1.tape, b1.output, b1.size, fun j hj _ => b1.block j hj⟩ (.inr (fun e => by cases e)) (row := none)
      have HB1 : Hid (Below w.heap.size w w1) := HB.out.trans (b1.mono HB.out.size)
      have hsz1 := HB1.out.size
      clear b1 hsum
      go_wp2_with (at_builtin; refine wp_app1 rfl _ _ 68 rfl w.heap.size 9 i0 (.string ⟨#[]⟩) 16 Tryz.underlying68 hi hz0 hz1 hz2 rfl _ _ _ rfl HRW1.out (.string rz) rfl rfl hx1 hx2 hsz1 ?_; intro g4 c4 w4 hown4 hb4 _)
      go_roundw
      case rel =>
        refine ⟨k + 1, HK.out, by go_num, ⟨⟨g4, c4, ?_⟩, ?_⟩, HB1.out.trans hb4⟩
        · rw [HE.out, List.length_append, HLN.out]; rfl
        · rw [HE.out, List.length_append, HLN.out, List.map_append]; exact hown4
      case measure => have := HK.out; simp [intOf]; omega
    · have HE : Hid ((ss.take k).map rootItemB = ss.map rootItemB) := by
        show _ = _
        rw [List.take_of_length_le (by rw [← HN.out]; omega)]
      clear hrow
      go_wp2_with fail
      go_ret
      refine ⟨_, rfl, ?_, HB.out⟩
      have := HR.out
      rw [HE.out] at this ⊢
      exact this

end Go.Proofs.YtialhnocknogpaaGreatDoor

set_option linter.unusedVariables false
namespace Go.Proofs.YtialhnocknogpaaGreatDoor
open Go.RowKit

def sliceLen2 : Value → Nat
  | .slice _ n _ => n
  | _ => 0
theorem row_below {B n : Nat} {e : TypeId} {v : Value} {xs : List Value} {w w1 : World} (h : w.ownsRow B e 1 v n xs) (b1 : Below w.heap.size w w1) : w1.ownsRow B e 1 v n xs := by
  refine ⟨h.1, ?_⟩
  rcases h.2 with h2 | ⟨g, cap, cur, hv, h2, h3, h4⟩
  · exact .inl h2
  · exact .inr ⟨g, cap, cur, hv, h2, by rw [b1.block g (Array.getElem?_eq_some_iff.1 h3).1]; exact h3, h4⟩
theorem bothSum (a b : ByteArray) (w : World) (ha : a.size = 16) (hb : b.size = 16) :
    Calls Tryz.prog 40 #[.string ((⟨#[98, 111, 116, 104, 32]⟩ : ByteArray) ++ a ++ (⟨#[32]⟩ : ByteArray) ++ b)] w fun e w' => e = .returned (.string (bothB a b)) ∧ Below w.heap.size w w' := by
  have hsum := specSum ((⟨#[98, 111, 116, 104, 32]⟩ : ByteArray) ++ a ++ (⟨#[32]⟩ : ByteArray) ++ b) w (by
    simp only [ByteArray.size_append]
    have e1 : (⟨#[98, 111, 116, 104, 32]⟩ : ByteArray).size = 5 := rfl
    have e2 : (⟨#[32]⟩ : ByteArray).size = 1 := rfl
    omega)
  have et : ((⟨#[98, 111, 116, 104, 32]⟩ : ByteArray) ++ a ++ (⟨#[32]⟩ : ByteArray) ++ b).data.toList = [98, 111, 116, 104, 32] ++ a.data.toList ++ [32] ++ b.data.toList := by simp
  rw [et] at hsum
  exact hsum

set_option maxHeartbeats 4000000 in
set_option maxRecDepth 100000 in
theorem specUp (g n cap : Nat) (ss : List ByteArray) (w : World) (h : AtS w g ss) (hn : n = ss.length) (hm : n ≤ 1000000) (hs : ∀ s ∈ ss, s.size = 16) :
    Calls Tryz.prog 73 #[.slice (some ⟨g, 0, none⟩) n cap] w fun e w' => ∃ v, e = .returned v ∧ SRow w.heap.size v (upR ss) w' ∧ Below w.heap.size w w' := by
  obtain ⟨i0, hi, hz0, hz1, hz2⟩ := info_parts infoStr
  have HA : Hid (AtS w g ss) := h
  have HN : Hid (n = ss.length) := hn
  have HS : Hid (∀ i, i < ss.length → (ss.getD i ByteArray.empty).size = 16) := by
    intro i hi
    refine hs _ ?_
    simp [List.getElem?_eq_getElem hi]
  clear h hn hs
  go_enter Tryz.func73, Tryz.ntmps73
  go_wp2_with fail
  have HW0 : Hid (SRow w.heap.size (.slice (some ⟨w.heap.size, 0, none⟩) 0 0) (upR (ss.take 0)) (w.alloc (.cells #[] 9))) := srow_new w
  have HB0 : Hid (Below w.heap.size w (w.alloc (.cells #[] 9))) := (Below.refl _ w).alloc (Nat.le_refl _) _
  go_loopw [3, 4] (fun v i wr => ∃ k : Nat, k ≤ n + 1 ∧ i = .int .i64 (k : Int) ∧ Hid (k % 2 = 0) ∧ Hid (SRow w.heap.size v (upR (ss.take k)) wr) ∧ Hid (Below w.heap.size w wr)) (fun _ i _ => n + 2 - (intOf i).toNat)
  case atStart => exact ⟨0, by omega, rfl, rfl, HW0, HB0⟩
  case round =>
    clear HW0 HB0
    obtain ⟨k, hk, rfl, HE2, HR, HB⟩ := hrel
    obtain ⟨⟨g3, c3, rfl⟩, hrow⟩ := HR.out
    obtain ⟨ml, hml⟩ : ∃ ml, ml = (upR (ss.take k)).length := ⟨_, rfl⟩
    have hmk : ml ≤ k := by
      rw [hml, upR_length]
      simp
      omega
    rw [← hml] at hrow ⊢
    have HML : Hid (ml = (upR (ss.take k)).length) := hml
    have HRW : Hid (wr.ownsRow w.heap.size 9 1 (.slice (some ⟨g3, 0, none⟩) ml c3) ml ((upR (ss.take k)).map Value.string)) := hrow
    clear hml hrow
    have hx1 : ml + 1 ≤ maxLen := by unfold maxLen; omega
    have hx2 : (ml + 1) * 16 ≤ 140737488355328 := by omega
    have hszr := HB.out.size
    by_cases hlt : k < n
    · have hkl : k < ss.length := by rw [← HN.out]; exact hlt
      have hc : wr.cell? ⟨g, k, none⟩ = some (.string (ss.getD k ByteArray.empty)) := by
        rw [HB.out.cell (p := ⟨g, k, none⟩) HA.out.1]
        exact HA.out.2 k hkl
      have lk : (k : Int) < (n : Int) := by omega
      by_cases hlt2 : k + 1 < n
      · have hkl2 : k + 1 < ss.length := by rw [← HN.out]; exact hlt2
        have hc2 : wr.cell? ⟨g, k + 1, none⟩ = some (.string (ss.getD (k + 1) ByteArray.empty)) := by
          rw [HB.out.cell (p := ⟨g, k + 1, none⟩) HA.out.1]
          exact HA.out.2 (k + 1) hkl2
        have hs1 := HS.out k hkl
        have hs2 := HS.out (k + 1) hkl2
        have HE : Hid (upR (ss.take (k + 2)) = upR (ss.take k) ++ [bothB (ss.getD k ByteArray.empty) (ss.getD (k + 1) ByteArray.empty)]) := take_two ss k hkl2 HE2.out
        generalize ss.getD k ByteArray.empty = a at hc hs1 HE
        generalize ss.getD (k + 1) ByteArray.empty = b at hc2 hs2 HE
        have lk2 : (k : Int) + 1 < (n : Int) := by omega
        have HK : Hid (k + 2 ≤ n + 1) := by show _ ≤ _; omega
        have hw1 : IntKind.i64.wrap ((k : Int) + 1) = (k : Int) + 1 := by rw [IntKind.wrap_i64]; omega
        have l0 : (0 : Int) ≤ (k : Int) + 1 := by omega
        have l1 : (0 : Int) ≤ (k : Int) := by omega
        have hgw : g < wr.heap.size := Nat.lt_of_lt_of_le HA.out.1 hszr
        have hne : g ≠ g3 := by
          rcases HRW.out.2 with ⟨h2, _⟩ | ⟨g', cap', cur, hv, h2, _⟩
          · cases h2
          · simp only [Value.slice.injEq, Option.some.injEq, Addr.mk.injEq, and_true] at hv
            have := HA.out.1
            omega
        clear hkl hkl2
        go_wp2_with fail
        go_region_held3 (fun w' => w'.cell? ⟨g, k, none⟩ = some (.string a) ∧ w'.cell? ⟨g, k + 1, none⟩ = some (.string b)) (first | go_keep | (exact ⟨(b1.cell (p := ⟨g, k, none⟩) hgw).trans hc, (b1.cell (p := ⟨g, k + 1, none⟩) hgw).trans hc2⟩) | (have hfar : w4.heap[g]? = w1.heap[g]? := (hgrow4.block g (by simp; omega) (by simpa [Value.ownBlock] using hne)).trans (Below.heap_alloc _ _ _ (by omega)); exact ⟨(World.cell?_of_block (a := ⟨g, k, none⟩) hfar).trans ((b1.cell (p := ⟨g, k, none⟩) hgw).trans hc), (World.cell?_of_block (a := ⟨g, k + 1, none⟩) hfar).trans ((b1.cell (p := ⟨g, k + 1, none⟩) hgw).trans hc2)⟩))
          (first
            | (go_at_call 40; refine (bothSum a b _ hs1 hs2).mono ?_; rintro e w1 ⟨rfl, b0⟩; have b1 : Below wr.heap.size wr w1 := ((Below.refl wr.heap.size wr).drew).trans b0; have hb1s : wr.heap.size ≤ w1.heap.size := b1.size; clear b0)
            | ((refine step_append_lies _ (by rfl) _ _ 68 (by rfl) w.heap.size 9 i0 (.string ⟨#[]⟩) 1 16 Tryz.underlying68 hi hz0 hz1 hz2 rfl (by decide) _ ml _ (by rfl) (World.ownsRow.alloc (row_below HRW.out b1) _) ⟨w1.heap.size, 0, none⟩ 1 1 [.string (bothB a b)] (by rfl) rfl (cell_one_new _ _ _) (by simp [Value.oneCell']) (by decide) hx1 hx2 (by simp; omega) _ rfl ?_; intro g4 c4 w4 hown4 hgrow4 hat4 hlt4)))
        have hb4 : Below w.heap.size w w4 := ((HB.out.trans (b1.mono hszr)).alloc (by omega) _).grown hgrow4 (by simp; omega) (fun j hj => by
          rcases HRW.out.2 with ⟨h2, _⟩ | ⟨g', cap', cur, hv, h2, _⟩
          · cases h2
          · simp only [Value.slice.injEq, Option.some.injEq, Addr.mk.injEq, and_true] at hv
            have : g3 = j := by simpa [Value.ownBlock] using hj
            omega)
        have HR4 : Hid (SRow w.heap.size (.slice (some ⟨g4, 0, none⟩) (ml + 1) c4) (upR (ss.take (k + 2))) w4) := by
          refine ⟨⟨g4, c4, ?_⟩, ?_⟩
          · rw [HE.out, List.length_append, ← HML.out]; rfl
          · rw [HE.out, List.length_append, ← HML.out, List.map_append]; exact hown4
        clear hown4 hgrow4 hat4 hlt4 b1
        go_wp2_with fail
        go_roundw
        case rel => exact ⟨k + 2, HK.out, by go_num, by have := HE2.out; show _ = _; omega, HR4, hb4⟩
        case measure => have := HK.out; simp [intOf]; omega
      · have hkn : k + 1 = ss.length := by have := HN.out; omega
        have hs1 := HS.out k hkl
        have HE : Hid (upR ss = upR (ss.take k) ++ [ss.getD k ByteArray.empty]) := take_last ss k hkn HE2.out
        have HEE : Hid (ss.take (k + 2) = ss) := List.take_of_length_le (by omega)
        generalize ss.getD k ByteArray.empty = a at hc hs1 HE
        have lk2 : ¬ (k : Int) + 1 < (n : Int) := by omega
        have HK : Hid (k + 2 ≤ n + 1) := by show _ ≤ _; omega
        have l1 : (0 : Int) ≤ (k : Int) := by omega
        clear hkl hkn
        go_wp2_with (at_builtin; refine wp_app1 rfl _ _ 68 rfl w.heap.size 9 i0 (.string ⟨#[]⟩) 16 Tryz.underlying68 hi hz0 hz1 hz2 rfl _ _ _ rfl HRW.out (.string a) rfl rfl hx1 hx2 hszr ?_; intro g4 c4 w4 hown4 hb4 _)
        have HR4 : Hid (SRow w.heap.size (.slice (some ⟨g4, 0, none⟩) (ml + 1) c4) (upR (ss.take (k + 2))) w4) := by
          rw [HEE.out]
          refine ⟨⟨g4, c4, ?_⟩, ?_⟩
          · rw [HE.out, List.length_append, ← HML.out]; rfl
          · rw [HE.out, List.length_append, ← HML.out, List.map_append]; exact hown4
        clear hown4
        go_roundw
        case rel => exact ⟨k + 2, HK.out, by go_num, by have := HE2.out; show _ = _; omega, HR4, HB.out.trans hb4⟩
        case measure => have := HK.out; simp [intOf]; omega
    · have HE : Hid (upR (ss.take k) = upR ss) := by
        show _ = _
        rw [List.take_of_length_le (by rw [← HN.out]; omega)]
      go_wp2_with fail
      go_ret
      refine ⟨_, rfl, ?_, HB.out⟩
      have := HR.out
      rw [HML.out, HE.out]
      rw [HE.out] at this
      exact this


end Go.Proofs.YtialhnocknogpaaGreatDoor

set_option linter.unusedVariables false
namespace Go.Proofs.YtialhnocknogpaaGreatDoor
open Go.RowKit

theorem drop_news {w : World} {g : Nat} {ss : List ByteArray} (h : AtS w g ss) (k r off : Nat) (hk : k + r = ss.length) (ho : 0 < r → off = k) : ∀ j u, ((ss.drop k).map Value.string)[j]? = some u → w.cell? ((⟨g, off, none⟩ : Addr).add j) = some u := by
  intro j u hu
  have hj : j < r := by
    have := (List.getElem?_eq_some_iff.1 hu).1
    simp at this
    omega
  have e := ho (by omega)
  subst e
  have hc := h.2 (off + j) (by omega)
  have e2 : ((ss.drop off).map Value.string)[j]? = some (.string (ss.getD (off + j) ByteArray.empty)) := by
    rw [List.getElem?_map, List.getElem?_drop, List.getElem?_eq_getElem (by omega)]
    simp [List.getElem?_eq_getElem (show off + j < ss.length by omega)]
  rw [e2] at hu
  rw [← hu, ← hc]
  rcases j with _ | j
  · simp [Addr.add]
  · simp [Addr.add]

end Go.Proofs.YtialhnocknogpaaGreatDoor

set_option linter.unusedVariables false
namespace Go.Proofs.YtialhnocknogpaaGreatDoor
open Go.RowKit Go.Deep

def ndVal (a : NodeB) : Value := .agg #[.string a.1, .bool a.2]
def ndEnc (a : NodeB) : List Value := [.string a.1, .bool a.2]
theorem ndEnc_len (a : NodeB) : (ndEnc a).length = 2 := rfl
theorem ndEnc_one (a : NodeB) : ∀ u ∈ ndEnc a, u.oneCell' = true := by
  intro u hu
  simp only [ndEnc, List.mem_cons, List.not_mem_nil, or_false] at hu
  rcases hu with rfl | rfl <;> rfl
theorem enSide_one (a : SideV) : ∀ u ∈ enSide a, u.oneCell' = true := by
  intro u hu
  simp only [enSide, List.mem_cons, List.not_mem_nil, or_false] at hu
  rcases hu with rfl | rfl <;> rfl
theorem bts : (28 : TypeId) ≠ 117 := by decide
/-- The sides while they are noted: the variable's block, their row. -/
structure SdW (w0 wr : World) (gp : Nat) (vs : Value) (ss : List SideV) : Prop where
  k : CBk wr gp 28 #[vs]
  row : wr.ownsRow w0.heap.size 117 2 vs ss.length (ss.flatMap enSide)
  b : Below w0.heap.size w0 wr
  lo : w0.heap.size ≤ gp
def Sd (w0 wr : World) (gp : Nat) (ss : List SideV) : Prop := ∃ vs, SdW w0 wr gp vs ss
theorem SdW.call {w0 wr w' : World} {gp : Nat} {vs : Value} {ss : List SideV} (h : SdW w0 wr gp vs ss) (hb : Below wr.heap.size wr w') : SdW w0 w' gp vs ss :=
  ⟨h.k.call hb, ownE_below h.row hb, h.b.trans (hb.mono h.b.size), h.lo⟩
theorem SdW.store {w0 wr : World} {gp g j : Nat} {T : TypeId} {vs : Value} {ss : List SideV} {cs : Array Value} (h : SdW w0 wr gp vs ss) (hk : CBk wr g T cs) (hT : T ≠ 117) (hne : g ≠ gp) (hlo : w0.heap.size ≤ g) (u : Value) : SdW w0 (wr.setCell ⟨g, j, none⟩ u) gp vs ss :=
  ⟨h.k.other hne u, ownE_set h.row hk hT, h.b.setCell (p := ⟨g, j, none⟩) hlo u, h.lo⟩
theorem CBk.twoC {w : World} {g : Nat} {T : TypeId} {a b : Value} (h : CBk w g T #[a, b]) : w.cell? ⟨g, 0, none⟩ = some a ∧ w.cell? ⟨g, 1, none⟩ = some b := ⟨h.cell 0, h.cell 1⟩
theorem CBk.twoF {w : World} {g : Nat} {T : TypeId} {cs : Array Value} (h : CBk w g T cs) : w.frozen? ⟨g, 0, none⟩ = false ∧ w.frozen? ⟨g, 1, none⟩ = false := ⟨h.frozen 0, h.frozen 1⟩
def NoteRes (w0 w : World) (gp : Nat) (ss : List SideV) (a b : NodeB) (e : Ending) (w' : World) : Prop := e = .returned (ndVal (bothNB a b)) ∧ Sd w0 w' gp (ss ++ noteNB a b) ∧ OffT 117 gp w w'
end Go.Proofs.YtialhnocknogpaaGreatDoor

set_option linter.unusedVariables false
namespace Go.Proofs.YtialhnocknogpaaGreatDoor
open Go.RowKit Go.Deep

theorem Sd.b {w0 wr : World} {gp : Nat} {ss : List SideV} (h : Sd w0 wr gp ss) : Below w0.heap.size w0 wr := by
  obtain ⟨vs, h⟩ := h
  exact h.b
theorem Sd.call {w0 wr w' : World} {gp : Nat} {ss : List SideV} (h : Sd w0 wr gp ss) (hb : Below wr.heap.size wr w') : Sd w0 w' gp ss := by
  obtain ⟨vs, h⟩ := h
  exact ⟨vs, h.call hb⟩
theorem Sd.blk {w0 wr : World} {gp : Nat} {ss : List SideV} (h : Sd w0 wr gp ss) : ∃ cs, CBk wr gp 28 cs := by
  obtain ⟨vs, h⟩ := h
  exact ⟨_, h.k⟩
theorem OffT.app {P : TypeId} {gp B n k : Nat} {e : TypeId} {w w1 w4 : World} {o : Obj} {v : Value} {xs : List Value} (h : OffT P gp w w1) (hr : w1.ownsRow B e k v n xs) (hB : w.heap.size ≤ B) (hg : (w1.alloc o).grownBy w4 v.ownBlock) : OffT P gp w w4 := by
  have hb : Below w1.heap.size w1 (w1.alloc o) := (Below.refl _ w1).alloc (Nat.le_refl _) _
  have h2 := h.below hb
  have hr2 := ownE_below hr hb
  refine ⟨Nat.le_trans h2.1 hg.size, fun c hc hne hp => ?_⟩
  rw [← h2.2 c hc hne hp]
  refine hg.block c (Nat.lt_of_lt_of_le hc h2.1) (fun he => ?_)
  have := (ownE_is hr2 he.symm).2
  omega
theorem OffT.app0 {P : TypeId} {gp B n k : Nat} {e : TypeId} {w w1 w4 : World} {v : Value} {xs : List Value} (h : OffT P gp w w1) (hr : w1.ownsRow B e k v n xs) (hB : w.heap.size ≤ B) (hg : w1.grownBy w4 v.ownBlock) : OffT P gp w w4 := by
  have h2 := h
  have hr2 := hr
  refine ⟨Nat.le_trans h2.1 hg.size, fun c hc hne hp => ?_⟩
  rw [← h2.2 c hc hne hp]
  refine hg.block c (Nat.lt_of_lt_of_le hc h2.1) (fun he => ?_)
  have := (ownE_is hr2 he.symm).2
  omega
end Go.Proofs.YtialhnocknogpaaGreatDoor

set_option linter.unusedVariables false
namespace Go.Proofs.YtialhnocknogpaaGreatDoor
open Go.RowKit

end Go.Proofs.YtialhnocknogpaaGreatDoor

set_option linter.unusedVariables false
namespace Go.Proofs.YtialhnocknogpaaGreatDoor
open Go.RowKit

end Go.Proofs.YtialhnocknogpaaGreatDoor

set_option linter.unusedVariables false
namespace Go.Proofs.YtialhnocknogpaaGreatDoor
open Go.RowKit

def itemsOkB (ss : List ByteArray) : Bool := decide (ss.length ≤ 40) && ss.all fun s => isItem s.data.toList
theorem itemsOk_len {ss : List ByteArray} (h : itemsOkB ss = true) : ss.length ≤ 40 := by
  simp only [itemsOkB, Bool.and_eq_true, decide_eq_true_eq] at h
  exact h.1
theorem itemsOk_at {ss : List ByteArray} (h : itemsOkB ss = true) (i : Nat) (hi : i < ss.length) : isItem (ss.getD i ByteArray.empty).data.toList = true := by
  simp only [itemsOkB, Bool.and_eq_true, List.all_eq_true] at h
  refine h.2 _ ?_
  simp [List.getElem?_eq_getElem hi]
theorem itemsOk_no {ss : List ByteArray} (i : Nat) (hi : i < ss.length) (h : isItem (ss.getD i ByteArray.empty).data.toList = false) : itemsOkB ss = false := by
  cases hh : itemsOkB ss with
  | false => rfl
  | true => rw [itemsOk_at hh i hi] at h; cases h
theorem itemsOk_yes {ss : List ByteArray} (h1 : ss.length ≤ 40) (h2 : ∀ i, i < ss.length → isItem (ss.getD i ByteArray.empty).data.toList = true) : itemsOkB ss = true := by
  simp only [itemsOkB, Bool.and_eq_true, List.all_eq_true, decide_eq_true_eq]
  refine ⟨h1, fun s hs => ?_⟩
  obtain ⟨i, hi, rfl⟩ := List.mem_iff_getElem.1 hs
  have := h2 i hi
  rw [List.getD_eq_getElem?_getD, List.getElem?_eq_getElem hi] at this
  exact this

end Go.Proofs.YtialhnocknogpaaGreatDoor

set_option linter.unusedVariables false
namespace Go.Proofs.YtialhnocknogpaaGreatDoor
open Go.RowKit

theorem rootItemB_16 (ss : List ByteArray) : ∀ s ∈ ss.map rootItemB, s.size = 16 := by
  intro s hs
  obtain ⟨x, _, rfl⟩ := List.mem_map.1 hs
  exact bsum_size _
theorem sumNil (w : World) : Calls Tryz.prog 40 #[.string ⟨#[]⟩] w fun e w' => e = .returned (.string (bsum [])) ∧ Below w.heap.size w w' := by
  have h : ∀ t : ByteArray, t = ⟨#[]⟩ → Calls Tryz.prog 40 #[.string t] w fun e w' => e = .returned (.string (bsum t.data.toList)) ∧ Below w.heap.size w w' := by
    intro t ht
    exact specSum t w (by rw [ht]; decide)
  exact h ⟨#[]⟩ rfl
/-- The root of items that are ok. -/
def rootL (ss : List ByteArray) : ByteArray := if ss = [] then bsum [] else rootR (ss.map rootItemB)

set_option maxHeartbeats 1000000 in
set_option maxRecDepth 100000 in
theorem specRoot (g n cap : Nat) (ss : List ByteArray) (w : World) (h : AtS w g ss) (hn : n = ss.length) (hm : n ≤ 1000000) (hs : ∀ i, i < ss.length → (ss.getD i ByteArray.empty).size ≤ 1048576) :
    Calls Tryz.prog 59 #[.slice (some ⟨g, 0, none⟩) n cap] w fun e w' => e = .returned (.string (rootL ss)) ∧ Below w.heap.size w w' := by
  have hrow := specRow g n cap ss w h hn hm hs
  obtain ⟨R, hRR⟩ : ∃ R, R = rootL ss := ⟨_, rfl⟩
  rw [← hRR]
  have HRR : Hid (R = rootL ss) := hRR
  clear hRR
  obtain ⟨rows, hrows⟩ : ∃ rows, rows = ss.map rootItemB := ⟨_, rfl⟩
  have H16 : Hid (∀ s ∈ rows, s.size = 16) := by rw [hrows]; exact rootItemB_16 ss
  have HRL : Hid (rows.length = ss.length) := by show _ = _; rw [hrows, List.length_map]
  have HRZ : Hid (ss ≠ [] → R = rootR rows) := by
    intro hne
    rw [HRR.out, rootL, if_neg hne, hrows]
  have HR0 : Hid (ss = [] → R = bsum []) := by
    intro he
    rw [HRR.out, rootL, if_pos he]
  rw [← hrows] at hrow
  have HN : Hid (n = ss.length) := hn
  clear hrows HRR hn h hs
  go_enter Tryz.func59, Tryz.ntmps59
  go_wp2_with fail
  refine hrow.mono ?_
  rintro e w1 ⟨v, rfl, hr, b1⟩
  have HB1 : Hid (Below w.heap.size w w1) := b1
  obtain ⟨g1, c1, rfl⟩ := hr.1
  have hlen : rows.length = n := by rw [HRL.out]; exact HN.out.symm
  have HR1 : Hid (SRow w.heap.size (.slice (some ⟨g1, 0, none⟩) rows.length c1) rows w1) := hr
  have HL : Hid (rows.length = n) := hlen
  rw [hlen]
  by_cases h0 : n = 0
  · have hne : ((n : Int) == 0) = true := by simp [h0]
    have HE : Hid (R = bsum []) := HR0.out (List.length_eq_zero_iff.1 (by rw [← HN.out]; exact h0))
    have hsum := sumNil w1
    clear HR0 HRZ
    generalize bsum [] = z at HE hsum
    clear hrow hr b1 hlen h0
    go_wp2_with fail
    refine hsum.mono ?_
    rintro e w2 ⟨rfl, b2⟩
    clear hsum
    go_wp2_with fail
    go_ret
    rw [HE.out]
    exact ⟨rfl, HB1.out.trans (b2.mono HB1.out.size)⟩
  · have hne : ((n : Int) == 0) = false := by simp; omega
    have HE : Hid (R = rootR rows) := HRZ.out (fun e => h0 (by rw [HN.out, e]; rfl))
    clear HR0 HRZ
    have HN0 : Hid (n ≠ 0) := h0
    clear hrow hr b1 hlen h0
    go_wp2_with fail
    go_loopw [3] (fun v wr => ∃ (rs : List ByteArray) (g2 c2 m : Nat), v = .slice (some ⟨g2, 0, none⟩) m c2 ∧ m ≤ n ∧ Hid (m = rs.length ∧ m ≠ 0) ∧ Hid (SRow w.heap.size v rs wr) ∧ Hid (∀ s ∈ rs, s.size = 16) ∧ Hid (rootR rs = rootR rows) ∧ Hid (Below w.heap.size w wr)) (fun v _ => sliceLen2 v)
    case atStart =>
      refine ⟨rows, g1, c1, n, rfl, Nat.le_refl _, ⟨HL.out.symm, HN0.out⟩, ?_, H16, rfl, HB1⟩
      have := HR1.out
      rw [HL.out] at this
      exact this
    case round =>
      obtain ⟨rs, g2, c2, m, rfl, hmn, HM, HR, H6, HT, HB⟩ := hrel
      have hat := HR.out.at
      by_cases h1 : 1 < m
      · have h1' : (1 : Int) < (m : Int) := by omega
        have hup := specUp g2 m c2 rs wr hat.1 HM.out.1 (by omega) H6.out
        have HU : Hid (rootR (upR rs) = rootR rows) := by
          show _ = _
          rw [← HT.out]
          exact (rootR_up (by have := HM.out.1; omega)).symm
        have HUL : Hid ((upR rs).length < m ∧ (upR rs).length ≠ 0) := by
          have := upR_length rs
          have := HM.out.1
          exact ⟨by omega, by omega⟩
        have HU6 : Hid (∀ s ∈ upR rs, s.size = 16) := upR_16 rs H6.out
        clear hat
        go_wp2_with fail
        refine hup.mono ?_
        rintro e w2 ⟨v2, rfl, hr2, b2⟩
        obtain ⟨g3, c3, rfl⟩ := hr2.1
        have HR2 : Hid (SRow wr.heap.size (.slice (some ⟨g3, 0, none⟩) (upR rs).length c3) (upR rs) w2) := hr2
        have HB2 : Hid (Below w.heap.size w w2) := HB.out.trans (b2.mono HB.out.size)
        clear hup hr2 b2
        obtain ⟨m2, hm2⟩ : ∃ m2, m2 = (upR rs).length := ⟨_, rfl⟩
        rw [← hm2] at HR2 HUL ⊢
        have HM2 : Hid (m2 = (upR rs).length) := hm2
        clear hm2
        go_wp2_with fail
        go_roundw
        case rel => exact ⟨upR rs, g3, c3, m2, rfl, by have := HUL.out; omega, ⟨HM2.out, HUL.out.2⟩, HR2.out.mono HB.out.size, HU6, HU, HB2⟩
        case measure => have := HUL.out; simp [sliceLen2]; omega
      · have h1' : ¬ (1 : Int) < (m : Int) := by omega
        have hm1 : m = 1 := by have := HM.out.2; omega
        subst hm1
        have hc := hat.1.2 0 (by rw [← HM.out.1]; omega)
        have HV : Hid (rs.getD 0 ByteArray.empty = rootR rows) := by
          show _ = _
          rw [← HT.out, rootR_one (by rw [← HM.out.1]; omega)]
        generalize rs.getD 0 ByteArray.empty = z at hc HV
        clear hat
        go_wp2_with fail
        go_ret
        rw [HE.out, ← HV.out]
        exact ⟨rfl, HB.out⟩


/-- What RootOf answers. -/
def rootOf (ss : List ByteArray) : ByteArray := if itemsOkB ss = true then rootL ss else ⟨#[]⟩
theorem rootOf_yes {ss : List ByteArray} (h : itemsOkB ss = true) : rootOf ss = rootL ss := by rw [rootOf, if_pos h]
theorem rootOf_no {ss : List ByteArray} (h : itemsOkB ss = false) : rootOf ss = ⟨#[]⟩ := by rw [rootOf, if_neg (by rw [h]; decide)]
end Go.Proofs.YtialhnocknogpaaGreatDoor

set_option linter.unusedVariables false
namespace Go.Proofs.YtialhnocknogpaaGreatDoor
open Go.RowKit Go.Deep

theorem upN_16 : ∀ l : List NodeB, (∀ q ∈ l, q.1.size = 16) → ∀ q ∈ upN l, q.1.size = 16
  | [], _ => by simp [upN]
  | [a], h => by simpa [upN] using h
  | a :: b :: r, h => by
    intro s hs
    rcases List.mem_cons.1 hs with rfl | hs
    · exact bsum_size _
    · exact upN_16 r (fun x hx => h x (by simp [hx])) s hs
/-- A list of sides that was handed back: nothing, or a row that stands in a block of its own. -/
def SdBk (w : World) (g n : Nat) : Prop := ∃ cur : Array Value, w.heap[g]? = some (.cells cur 117 (0, 0)) ∧ n * 2 ≤ cur.size
def Sds (B : Nat) (v : Value) (l : List SideV) (w : World) : Prop := (v = .slice none 0 0 ∧ l = []) ∨ ∃ g cap, v = .slice (some ⟨g, 0, none⟩) l.length cap ∧ AtSide w g l ∧ SdBk w g l.length ∧ B ≤ g
theorem sds_own {B : Nat} {v : Value} {l : List SideV} {w : World} (h : w.ownsRow B 117 2 v l.length (l.flatMap enSide)) : Sds B v l w := by
  have h' := h
  rcases h.2 with ⟨rfl, h0⟩ | ⟨g, cap, cur, rfl, hB, hg, h1, h2, h3, h4⟩
  · exact .inl ⟨rfl, List.eq_nil_of_length_eq_zero h0⟩
  · refine .inr ⟨g, cap, rfl, (FRow.at enSide_len (FRow.of h' rfl)).1, ⟨cur, hg, ?_⟩, hB⟩
    rw [h3]
    exact Nat.mul_le_mul_right _ h1
/-- What RootProof tells. -/
def rproofL (ss : List ByteArray) (x : Int) : List SideV := if itemsOkB ss = true ∧ 0 ≤ x ∧ x < (ss.length : Int) then sidesR ss.length (ss.map rootItemB) x.toNat else []
theorem rproof_no {ss : List ByteArray} {x : Int} (h : ¬ (itemsOkB ss = true ∧ 0 ≤ x ∧ x < (ss.length : Int))) : rproofL ss x = [] := by rw [rproofL, if_neg h]
theorem rproof_yes {ss : List ByteArray} {X : Nat} (hk : itemsOkB ss = true) (h : X < ss.length) : rproofL ss (X : Int) = sidesR ss.length (ss.map rootItemB) X := by
  rw [rproofL, if_pos ⟨hk, by omega, by omega⟩]
  rfl
def RpPost (ss : List ByteArray) (x : Int) (w : World) (e : Ending) (w' : World) : Prop := ∃ v, e = .returned v ∧ Sds w.heap.size v (rproofL ss x) w' ∧ Below w.heap.size w w'
end Go.Proofs.YtialhnocknogpaaGreatDoor

set_option linter.unusedVariables false
namespace Go.Proofs.YtialhnocknogpaaGreatDoor
open Go.RowKit Go.Deep

def lenS : Value → Nat
  | .slice _ n _ => n
  | _ => 0
theorem own_atS {w : World} {B g m c : Nat} {rs : List ByteArray} (h : w.ownsRow B 9 1 (.slice (some ⟨g, 0, none⟩) m c) m (rs.map Value.string)) (hm : m = rs.length) : AtS w g rs := by
  subst hm
  exact (SRow.at (B := B) (cap := c) ⟨⟨g, c, rfl⟩, h⟩).1
theorem stn2 : (117 : TypeId) ≠ 9 := by decide
theorem sts2 : (9 : TypeId) ≠ 117 := by decide
theorem sidesR_len (f : Nat) (ss : List ByteArray) (x : Nat) (h : x < ss.length) : (sidesR f ss x).length ≤ 2 * ss.length := by
  rw [← noteT_mk f ss x h]
  have := noteT_len f (mkN ss 0 x)
  rwa [mkN_len] at this
theorem srow_side (w : World) : (w.alloc (.cells #[] 117)).ownsRow w.heap.size 117 2 (.slice (some ⟨w.heap.size, 0, none⟩) 0 0) 0 (([] : List SideV).flatMap enSide) := (frow_new enSide 117 2 w).2
set_option maxHeartbeats 8000000 in
set_option maxRecDepth 100000 in
theorem specL3Proof (g n cap : Nat) (ss : List ByteArray) (X : Nat) (w : World) (h : AtS w g ss) (hn : n = ss.length) (hm : n ≤ 40) (hX : X < ss.length) (hs : ∀ i, i < ss.length → (ss.getD i ByteArray.empty).size ≤ 1048576) :
    Calls Tryz.prog 44 #[.slice (some ⟨g, 0, none⟩) n cap, .int .i64 (X : Int)] w fun e w' => ∃ v, e = .returned v ∧ Sds w.heap.size v (sidesR n (ss.map rootItemB) X) w' ∧ Below w.heap.size w w' := by
  obtain ⟨i0, hi, hz0, hz1, hz2⟩ := info3 infoSide
  have hb0 : Below w.heap.size w (w.alloc (.cells #[] 117)) := (Below.refl _ w).alloc (Nat.le_refl _) _
  have O0 : Hid ((w.alloc (.cells #[] 117)).ownsRow w.heap.size 117 2 (.slice (some ⟨w.heap.size, 0, none⟩) 0 0) 0 (([] : List SideV).flatMap enSide)) := srow_side w
  have B0 : Hid (Below w.heap.size w (w.alloc (.cells #[] 117))) := hb0
  have hrow := specRow g n cap ss (w.alloc (.cells #[] 117)) (h.below hb0 h.1) hn (by omega) hs
  have H6 : Hid (∀ s ∈ ss.map rootItemB, s.size = 16) := rootItemB_16 ss
  have HLN : Hid ((ss.map rootItemB).length = n) := by show _ = _; rw [List.length_map]; exact hn.symm
  have HX : Hid (X < n ∧ n ≤ 40) := ⟨by omega, hm⟩
  obtain ⟨N, hN⟩ : ∃ N, N = sidesR n (ss.map rootItemB) X := ⟨_, rfl⟩
  have HNL : Hid (N.length ≤ 80) := by
    show _ ≤ _
    have h1 := sidesR_len n (ss.map rootItemB) X (by rw [List.length_map]; exact hX)
    rw [← hN, List.length_map] at h1
    omega
  have HT0 : Hid (sidesR n (ss.map rootItemB) X = N) := hN.symm
  rw [← hN]
  generalize ss.map rootItemB = r0 at hrow H6 HLN HT0
  clear hN
  obtain ⟨Q, hQ⟩ : ∃ Q : Ending → World → Prop, Q = fun e w' => ∃ v, e = .returned v ∧ Sds w.heap.size v N w' ∧ Below w.heap.size w w' := ⟨_, rfl⟩
  have HQ : Hid (∀ (v : Value) (w' : World), w'.ownsRow w.heap.size 117 2 v N.length (N.flatMap enSide) → Below w.heap.size w w' → Q (.returned v) w') := fun v w' h1 h2 => by rw [hQ]; exact ⟨v, rfl, sds_own h1, h2⟩
  show Calls _ _ _ _ (fun e w' => ∃ v, e = .returned v ∧ Sds w.heap.size v N w' ∧ Below w.heap.size w w')
  rw [← hQ]
  clear hQ h hn hm hX hs hb0
  go_enter Tryz.func44, Tryz.ntmps44
  go_wp2_with fail
  refine hrow.mono ?_
  rintro e w1 ⟨v1, rfl, hr1, b1⟩
  obtain ⟨⟨g1, c1, rfl⟩, hr1'⟩ := hr1
  rw [HLN.out] at hr1' ⊢
  have R1 : Hid (w1.ownsRow w.heap.size 9 1 (.slice (some ⟨g1, 0, none⟩) n c1) n (r0.map Value.string)) := ownE_mono hr1' B0.out.size
  have O1 : Hid (w1.ownsRow w.heap.size 117 2 (.slice (some ⟨w.heap.size, 0, none⟩) 0 0) 0 (([] : List SideV).flatMap enSide)) := ownE_below O0.out b1
  have B1 : Hid (Below w.heap.size w w1) := B0.out.trans (b1.mono B0.out.size)
  clear hrow hr1' b1 O0 B0
  go_wp2_with fail
  go_loopw [1, 5, 6] (fun at5 out row wr => ∃ (y f m c2 g2 m5 g5 c5 : Nat) (rs : List ByteArray) (o : List SideV), at5 = .int .i64 (y : Int) ∧ out = .slice (some ⟨g5, 0, none⟩) m5 c5 ∧ row = .slice (some ⟨g2, 0, none⟩) m c2 ∧ m ≤ 40 ∧ Hid (m = rs.length ∧ y < m ∧ m ≤ f ∧ o.length = m5) ∧ Hid (wr.ownsRow w.heap.size 117 2 (.slice (some ⟨g5, 0, none⟩) m5 c5) m5 (o.flatMap enSide)) ∧ Hid (wr.ownsRow w.heap.size 9 1 (.slice (some ⟨g2, 0, none⟩) m c2) m (rs.map Value.string)) ∧ Hid (∀ s ∈ rs, s.size = 16) ∧ Hid (o ++ sidesR f rs y = N) ∧ Hid (Below w.heap.size w wr)) (fun _ _ row _ => lenS row)
  case atStart => exact ⟨X, n, n, c1, g1, 0, w.heap.size, 0, r0, [], rfl, rfl, rfl, HX.out.2, ⟨HLN.out.symm, HX.out.1, Nat.le_refl _, rfl⟩, O1, R1, H6, HT0, B1⟩
  case round =>
    clear O1 R1 H6 HT0 B1
    obtain ⟨y, f, m, c2, g2, m5, g5, c5, rs, o, rfl, rfl, rfl, hm40, HM, OW, RW, H6, HT, HB⟩ := hrel
    by_cases h1 : 1 < m
    · have hn1 : (1 : Int) < (m : Int) := by omega
      obtain ⟨f', hf'⟩ : ∃ f', f = f' + 1 := ⟨f - 1, by have := HM.out; omega⟩
      subst hf'
      obtain ⟨q, hq⟩ : ∃ q, q = y % 2 := ⟨_, rfl⟩
      obtain ⟨z, hz⟩ : ∃ z, z = y + 1 - q * 2 := ⟨_, rfl⟩
      have hml : ¬ rs.length ≤ 1 := by rw [← HM.out.1]; omega
      have HS : Hid (sidesR (f' + 1) rs y = (if z < m then [⟨rs.getD z ByteArray.empty, decide (z < y)⟩] else []) ++ sidesR f' (upR rs) (y / 2)) := by
        show _ = _
        rw [sidesR_step hml, sideV, if_pos (by omega), ← hq, ← hz, ← HM.out.1]
        simp
      have hym := HM.out.2.1
      have hq2 : q < 2 := by omega
      have hr1 : Int.tmod (y : Int) 2 = (q : Int) := by rw [hq]; rfl
      have hr2 : (y : Int) % 2 = (q : Int) := by omega
      have hw1 : IntKind.i64.wrap ((y : Int) + 1) = (y : Int) + 1 := by rw [IntKind.wrap_i64]; omega
      have hw2 : IntKind.i64.wrap ((q : Int) * 2) = (q : Int) * 2 := by rw [IntKind.wrap_i64]; omega
      have hw3 : IntKind.i64.wrap ((y : Int) + 1 - (q : Int) * 2) = (z : Int) := by rw [IntKind.wrap_i64]; omega
      have hwq : IntKind.i64.wrap (q : Int) = (q : Int) := by rw [IntKind.wrap_i64]; omega
      have hd1 : Int.tdiv (y : Int) 2 = ((y / 2 : Nat) : Int) := rfl
      have HUL : Hid (y / 2 < (upR rs).length ∧ (upR rs).length ≤ f' ∧ (upR rs).length < m) := by
        have h3 := upR_length rs
        have h4 := HM.out
        exact ⟨by omega, by omega, by omega⟩
      have HM1 : Hid (m ≤ 40 ∧ y < m) := ⟨hm40, hym⟩
      have HU6 : Hid (∀ s ∈ upR rs, s.size = 16) := upR_16 rs H6.out
      have HML : Hid (m = rs.length) := HM.out.1
      have HOL : Hid (o.length = m5) := HM.out.2.2.2
      have HO80 : Hid (m5 ≤ 80) := by
        show _ ≤ _
        have h2 := congrArg List.length HT.out
        rw [List.length_append] at h2
        have h3 := HNL.out
        have h4 := HOL.out
        omega
      have HUP : Hid (∀ w', AtS w' g2 rs → Calls Tryz.prog 73 #[.slice (some ⟨g2, 0, none⟩) m c2] w' fun e w'' => ∃ v, e = .returned v ∧ SRow w'.heap.size v (upR rs) w'' ∧ Below w'.heap.size w' w'') := fun w' h => specUp g2 m c2 rs w' h HM.out.1 (by omega) H6.out
      clear hq hz hml HM H6
      by_cases hzm : z < m
      · have lz1 : (z : Int) < (m : Int) := by omega
        have lz0 : (0 : Int) ≤ (z : Int) := by omega
        have c0 : wr.cell? ⟨g2, z, none⟩ = some (.string (rs.getD z ByteArray.empty)) := (own_atS RW.out HML.out).2 z (by rw [← HML.out]; exact hzm)
        have HT2 : Hid ((o ++ [⟨rs.getD z ByteArray.empty, decide (z < y)⟩]) ++ sidesR f' (upR rs) (y / 2) = N) := by
          show _ = _
          rw [← HT.out, HS.out, if_pos hzm, List.append_assoc]
        generalize rs.getD z ByteArray.empty = t at c0 HT2
        have hu := enSide_one (⟨t, decide (z < y)⟩ : SideV)
        have hx1 : m5 + 1 ≤ maxLen := by have := HO80.out; unfold maxLen; omega
        have hx2 : (m5 + 1) * 24 ≤ 140737488355328 := by have := HO80.out; omega
        have hsz := HB.out.size
        clear HS HT
        go_upto_region 7 with (at_builtin; refine wp_appN rfl _ _ 28 rfl w.heap.size 117 i0 (.agg #[.string ⟨#[]⟩, .bool false]) 2 24 1 Tryz.underlying28 hi hz0 hz1 hz2 rfl (by decide) (by decide) _ _ _ rfl OW.out (enSide ⟨t, decide (z < y)⟩) (by first | rfl | simp [Act.eval]) rfl hu hx1 hx2 hsz ?_; intro g7 c7 w7 hown7 hb7 hkeep7)
        obtain ⟨o7, ho7⟩ : ∃ o7, o7 = o ++ [⟨t, decide (z < y)⟩] := ⟨_, rfl⟩
        have O7 : Hid (w7.ownsRow w.heap.size 117 2 (.slice (some ⟨g7, 0, none⟩) (m5 + 1) c7) (m5 + 1) (o7.flatMap enSide)) := by
          have h5 : w7.ownsRow w.heap.size 117 2 (.slice (some ⟨g7, 0, none⟩) (m5 + 1) c7) (m5 + 1) (o7.flatMap enSide) := by
            rw [ho7, List.flatMap_append]
            simpa using hown7
          exact h5
        have HO7 : Hid (o7.length = m5 + 1) := by show _ = _; rw [ho7, List.length_append, HOL.out]; rfl
        have HT7 : Hid (o7 ++ sidesR f' (upR rs) (y / 2) = N) := by show _ = _; rw [ho7]; exact HT2.out
        have R7 : Hid (w7.ownsRow w.heap.size 9 1 (.slice (some ⟨g2, 0, none⟩) m c2) m (rs.map Value.string)) := ownE_keep RW.out (fun b hv hlt => by
          obtain ⟨⟨cur, hc⟩, _⟩ := ownE_is RW.out hv
          exact hkeep7 b hlt (ownE_ne OW.out hc sts2))
        have B7 : Hid (Below w.heap.size w w7) := HB.out.trans hb7
        have hup := HUP.out w7 (own_atS R7.out HML.out)
        clear ho7 hown7 hb7 hkeep7 OW RW HB c0 hu hx1 hx2 hsz HT2 HUP hr1 hr2 hw1 hw2 hw3 hwq lz1 lz0 hzm
        go_wp2_with fail
        refine hup.mono ?_
        rintro e w9 ⟨v9, rfl, hr9, b9⟩
        obtain ⟨⟨g9, c9, rfl⟩, hr9'⟩ := hr9
        have R9 : Hid (w9.ownsRow w.heap.size 9 1 (.slice (some ⟨g9, 0, none⟩) (upR rs).length c9) (upR rs).length ((upR rs).map Value.string)) := ownE_mono hr9' B7.out.size
        have O9 : Hid (w9.ownsRow w.heap.size 117 2 (.slice (some ⟨g7, 0, none⟩) (m5 + 1) c7) (m5 + 1) (o7.flatMap enSide)) := ownE_below O7.out b9
        have B9 : Hid (Below w.heap.size w w9) := B7.out.trans (b9.mono B7.out.size)
        clear hup b9 hr9' R7 O7 B7
        obtain ⟨mm, hmm⟩ : ∃ mm, mm = (upR rs).length := ⟨_, rfl⟩
        rw [← hmm] at R9 HUL ⊢
        have HMM : Hid (mm = (upR rs).length) := hmm
        clear hmm
        go_wp2_with fail
        go_roundw
        case rel => exact ⟨y / 2, f', mm, c9, g9, (m5 + 1), g7, c7, upR rs, o7, congrArg (Value.int .i64) (by omega), rfl, rfl, by have h1 := HUL.out; have h2 := HM1.out; omega, ⟨HMM.out, HUL.out.1, HUL.out.2.1, HO7.out⟩, O9, R9, HU6, HT7, B9⟩
        case measure => have h1 := HUL.out; simp [lenS]; omega
      · have lz1 : ¬ (z : Int) < (m : Int) := by omega
        have HT7 : Hid (o ++ sidesR f' (upR rs) (y / 2) = N) := by
          show _ = _
          rw [← HT.out, HS.out, if_neg hzm]
          rfl
        have O7 : Hid (wr.ownsRow w.heap.size 117 2 (.slice (some ⟨g5, 0, none⟩) m5 c5) m5 (o.flatMap enSide)) := OW.out
        have R7 : Hid (wr.ownsRow w.heap.size 9 1 (.slice (some ⟨g2, 0, none⟩) m c2) m (rs.map Value.string)) := RW.out
        have B7 : Hid (Below w.heap.size w wr) := HB.out
        have HO7 : Hid (o.length = m5) := HOL.out
        have hup := HUP.out wr (own_atS RW.out HML.out)
        clear HS HT OW RW HB HUP
        generalize o = o7 at HT7 O7 HO7
        go_wp2_with fail
        refine hup.mono ?_
        rintro e w9 ⟨v9, rfl, hr9, b9⟩
        obtain ⟨⟨g9, c9, rfl⟩, hr9'⟩ := hr9
        have R9 : Hid (w9.ownsRow w.heap.size 9 1 (.slice (some ⟨g9, 0, none⟩) (upR rs).length c9) (upR rs).length ((upR rs).map Value.string)) := ownE_mono hr9' B7.out.size
        have O9 : Hid (w9.ownsRow w.heap.size 117 2 (.slice (some ⟨g5, 0, none⟩) m5 c5) m5 (o7.flatMap enSide)) := ownE_below O7.out b9
        have B9 : Hid (Below w.heap.size w w9) := B7.out.trans (b9.mono B7.out.size)
        clear hup b9 hr9' R7 O7 B7
        obtain ⟨mm, hmm⟩ : ∃ mm, mm = (upR rs).length := ⟨_, rfl⟩
        rw [← hmm] at R9 HUL ⊢
        have HMM : Hid (mm = (upR rs).length) := hmm
        clear hmm
        go_wp2_with fail
        go_roundw
        case rel => exact ⟨y / 2, f', mm, c9, g9, m5, g5, c5, upR rs, o7, congrArg (Value.int .i64) (by omega), rfl, rfl, by have h1 := HUL.out; have h2 := HM1.out; omega, ⟨HMM.out, HUL.out.1, HUL.out.2.1, HO7.out⟩, O9, R9, HU6, HT7, B9⟩
        case measure => have h1 := HUL.out; simp [lenS]; omega
    · have hn1 : ¬ (1 : Int) < (m : Int) := by omega
      have HTN : Hid (o = N) := by
        have h2 := HT.out
        rwa [sidesR_done (by rw [← HM.out.1]; omega), List.append_nil] at h2
      have HFQ : Hid (Q (.returned (.slice (some ⟨g5, 0, none⟩) m5 c5)) wr) := HQ.out _ wr (by rw [← HTN.out, HM.out.2.2.2]; exact OW.out) HB.out
      clear HT HM OW RW H6 HB
      go_wp2_with fail
      exact HFQ.out
end Go.Proofs.YtialhnocknogpaaGreatDoor

set_option linter.unusedVariables false
namespace Go.Proofs.YtialhnocknogpaaGreatDoor
open Go.RowKit Go.Deep

theorem SdBk.lt {w : World} {g n : Nat} (h : SdBk w g n) : g < w.heap.size := by
  obtain ⟨cur, h1, _⟩ := h
  rcases Nat.lt_or_ge g w.heap.size with h' | h'
  · exact h'
  · simp [Array.getElem?_eq_none h'] at h1
theorem SdBk.keep {w w' : World} {g n : Nat} (h : SdBk w g n) (hk : w'.heap[g]? = w.heap[g]?) : SdBk w' g n := by
  obtain ⟨cur, h1, h2⟩ := h
  exact ⟨cur, hk.trans h1, h2⟩
theorem SdBk.below {w w' : World} {g n B : Nat} (h : SdBk w g n) (hb : Below B w w') (hg : g < B) : SdBk w' g n := h.keep (hb.block g hg)
theorem SdBk.cell {w : World} {g n : Nat} (h : SdBk w g n) (i : Nat) (hi : i < n * 2) : (∃ v, w.cell? ⟨g, i, none⟩ = some v) ∧ w.frozen? ⟨g, i, none⟩ = false := by
  obtain ⟨cur, h1, h2⟩ := h
  refine ⟨?_, Lib.frozen_of_heap h1 i⟩
  rw [Lib.cell_of_heap h1]
  have hic : i < cur.size := by omega
  exact ⟨cur[i], Array.getElem?_eq_getElem hic⟩
theorem SdBk.set {w : World} {g n : Nat} (h : SdBk w g n) (i : Nat) (v : Value) : SdBk (w.setCell ⟨g, i, none⟩ v) g n := by
  obtain ⟨cur, h1, h2⟩ := h
  exact ⟨cur.setIfInBounds i v, by simp [World.setCell, Array.getElem?_modify, h1], by simpa using h2⟩
theorem cellSetOtherS {w : World} {g i j : Nat} {v : Value} (h : i ≠ j) : (w.setCell ⟨g, i, none⟩ v).cell? ⟨g, j, none⟩ = w.cell? ⟨g, j, none⟩ := by
  simp [World.setCell, World.cell?, Array.getElem?_modify]
  cases hh : w.heap[g]? with
  | none => simp
  | some o => cases o <;> simp [h]
theorem SdBk.cellSet {w : World} {g n : Nat} (h : SdBk w g n) (i : Nat) (hi : i < n * 2) (v : Value) : (w.setCell ⟨g, i, none⟩ v).cell? ⟨g, i, none⟩ = some v := by
  obtain ⟨cur, h1, h2⟩ := h
  have : (w.setCell ⟨g, i, none⟩ v).heap[g]? = some (.cells (cur.setIfInBounds i v) 117 (0, 0)) := by simp [World.setCell, Array.getElem?_modify, h1]
  rw [Lib.cell_of_heap this]
  have : i < cur.size := by omega
  simp [this]
def b3 (m : Nat) : Bool := decide (m % 3 = 0)
theorem b3_int (m : Nat) : (((m % 3 : Nat) : Int) == 0) = b3 m := by
  rw [b3, Bool.eq_iff_iff]
  simp only [beq_iff_eq, decide_eq_true_eq]
  omega
/-- A list that holds its marks, so far. -/
def MkSd (w : World) (g k n : Nat) : Prop := ∀ i, i < n → w.cell? ⟨g, i * 2, none⟩ = some (.string (mkS (k + 2 * i))) ∧ w.cell? ⟨g, i * 2 + 1, none⟩ = some (.bool (b3 (k + 2 * i + 1)))
theorem MkSd.below {w w' : World} {g k n B : Nat} (h : MkSd w g k n) (hb : Below B w w') (hg : g < B) : MkSd w' g k n := fun i hi =>
  ⟨(hb.cell (p := ⟨g, i * 2, none⟩) hg).trans (h i hi).1, (hb.cell (p := ⟨g, i * 2 + 1, none⟩) hg).trans (h i hi).2⟩
theorem MkSd.step {w : World} {g k j n : Nat} (h : MkSd w g k j) (hb : SdBk w g n) (hj : j < n) : MkSd ((w.setCell ⟨g, j * 2, none⟩ (.string (mkS (k + 2 * j)))).setCell ⟨g, j * 2 + 1, none⟩ (.bool (b3 (k + 2 * j + 1)))) g k (j + 1) := by
  intro i hi
  rcases Nat.lt_or_ge i j with h' | h'
  · obtain ⟨h1, h2⟩ := h i h'
    refine ⟨?_, ?_⟩
    · rw [cellSetOtherS (by omega), cellSetOtherS (by omega)]; exact h1
    · rw [cellSetOtherS (by omega), cellSetOtherS (by omega)]; exact h2
  · obtain rfl : i = j := by omega
    refine ⟨?_, ?_⟩
    · rw [cellSetOtherS (by omega)]; exact hb.cellSet _ (by omega) _
    · exact (hb.set _ _).cellSet _ (by omega) _
theorem setOffS {w wr : World} {g j : Nat} {v : Value} (h : ∀ c, c < w.heap.size → c ≠ g → wr.heap[c]? = w.heap[c]?) : ∀ c, c < w.heap.size → c ≠ g → (wr.setCell ⟨g, j, none⟩ v).heap[c]? = w.heap[c]? := fun c hc hne => by
  rw [← h c hc hne]
  simp [World.setCell, Array.getElem?_modify, Ne.symm hne]
def MSdPost (g n k : Nat) (w : World) (e : Ending) (w' : World) : Prop := e = .returned (.int .i64 ((k + 2 * n : Nat) : Int)) ∧ MkSd w' g k n ∧ (∀ c, c < w.heap.size → c ≠ g → w'.heap[c]? = w.heap[c]?) ∧ Below 0 w w' ∧ SdBk w' g n
end Go.Proofs.YtialhnocknogpaaGreatDoor

set_option linter.unusedVariables false
namespace Go.Proofs.YtialhnocknogpaaGreatDoor
open Go.RowKit Go.Deep

theorem Sds.below {B : Nat} {v : Value} {l : List SideV} {w w' : World} (h : Sds B v l w) (hb : Below w.heap.size w w') : Sds B v l w' := by
  rcases h with h | ⟨g, cap, h1, h2, h3, h4⟩
  · exact .inl h
  · exact .inr ⟨g, cap, h1, h2.below hb h2.1, h3.below hb h3.lt, h4⟩
theorem Sds.mono {B C : Nat} {v : Value} {l : List SideV} {w : World} (h : Sds B v l w) (hc : C ≤ B) : Sds C v l w := by
  rcases h with h | ⟨g, cap, h1, h2, h3, h4⟩
  · exact .inl h
  · exact .inr ⟨g, cap, h1, h2, h3, Nat.le_trans hc h4⟩
/-- The block of a value that is a row. -/
def blkS : Value → Nat → Prop
  | .slice (some a) _ _, g => a.block = g
  | _, _ => False
theorem Sds.blk {B : Nat} {v : Value} {l : List SideV} {w : World} (h : Sds B v l w) {g : Nat} (hv : blkS v g) : g < w.heap.size ∧ B ≤ g := by
  rcases h with ⟨rfl, _⟩ | ⟨g', c', rfl, h2, _, h4⟩
  · exact absurd hv (by simp [blkS])
  · have : g' = g := hv
    subst this
    exact ⟨h2.1, h4⟩
theorem Sds.keep {B : Nat} {v : Value} {l : List SideV} {w w' : World} (h : Sds B v l w) (hs : w.heap.size ≤ w'.heap.size) (hk : ∀ g, blkS v g → w'.heap[g]? = w.heap[g]?) : Sds B v l w' := by
  rcases h with h | ⟨g, cap, rfl, h2, h3, h4⟩
  · exact .inl h
  · refine .inr ⟨g, cap, rfl, ⟨Nat.lt_of_lt_of_le h2.1 hs, fun i j hi hj => ?_⟩, h3.keep (hk g rfl), h4⟩
    have := h2.2 i j hi hj
    rw [← this]
    exact World.cell?_of_block (a := ⟨g, i * 2 + j, none⟩) (hk g rfl)
theorem sds_slice {B : Nat} {v : Value} {l : List SideV} {w : World} (h : Sds B v l w) : ∃ a n c, v = .slice a n c := by
  rcases h with ⟨rfl, _⟩ | ⟨g, cap, rfl, _⟩
  · exact ⟨_, _, _, rfl⟩
  · exact ⟨_, _, _, rfl⟩
/-- A list of sides that holds its marks from k on. -/
def HeldS (v : Value) (n k : Nat) (w : World) : Prop := (v = .slice none 0 0 ∧ n = 0) ∨ ∃ g cap, v = .slice (some ⟨g, 0, none⟩) n cap ∧ g < w.heap.size ∧ MkSd w g k n
theorem HeldS.below {v : Value} {n k : Nat} {w w' : World} (h : HeldS v n k w) (hb : Below w.heap.size w w') : HeldS v n k w' := by
  rcases h with h | ⟨g, cap, h1, h2, h3⟩
  · exact .inl h
  · exact .inr ⟨g, cap, h1, Nat.lt_of_lt_of_le h2 hb.size, h3.below hb h2⟩
theorem rproofL_len (ss : List ByteArray) (x : Int) : (rproofL ss x).length ≤ 1048576 := by
  unfold rproofL
  split
  · rename_i h
    have h1 := itemsOk_len h.1
    have h2 := sidesR_len ss.length (ss.map rootItemB) x.toNat (by rw [List.length_map]; omega)
    rw [List.length_map] at h2
    omega
  · exact Nat.zero_le _
end Go.Proofs.YtialhnocknogpaaGreatDoor

set_option linter.unusedVariables false
namespace Go.Proofs.YtialhnocknogpaaGreatDoor
open Go.RowKit Go.Deep

structure BlkV where
  h : HeadV
  g : Nat
  n : Nat
  cap : Nat
  ss : List ByteArray
instance : Inhabited BlkV := ⟨⟨default, 0, 0, 0, []⟩⟩
def enBlk (b : BlkV) : List Value := [.string b.h.prev, .string b.h.root, .int .i64 b.h.time, .int .i64 b.h.diff, .int .i64 b.h.nonce, .slice (some ⟨b.g, 0, none⟩) b.n b.cap]
theorem enBlk_len (b : BlkV) : (enBlk b).length = 6 := rfl
abbrev AtBlk (w : World) (g : Nat) (l : List BlkV) : Prop := AtF enBlk 6 w g l
/-- The items of a block in memory. -/
def ItemsAt (w : World) (b : BlkV) : Prop := AtS w b.g b.ss ∧ b.n = b.ss.length
theorem AtBlk.c0 {w : World} {g : Nat} {l : List BlkV} (h : AtBlk w g l) (i : Nat) (hi : i < l.length) : w.cell? ⟨g, i * 6, none⟩ = some (.string (l.getD i default).h.prev) := h.2 i 0 hi (by decide)
theorem AtBlk.c1 {w : World} {g : Nat} {l : List BlkV} (h : AtBlk w g l) (i : Nat) (hi : i < l.length) : w.cell? ⟨g, i * 6 + 1, none⟩ = some (.string (l.getD i default).h.root) := h.2 i 1 hi (by decide)
theorem AtBlk.c2 {w : World} {g : Nat} {l : List BlkV} (h : AtBlk w g l) (i : Nat) (hi : i < l.length) : w.cell? ⟨g, i * 6 + 2, none⟩ = some (.int .i64 (l.getD i default).h.time) := h.2 i 2 hi (by decide)
theorem AtBlk.c3 {w : World} {g : Nat} {l : List BlkV} (h : AtBlk w g l) (i : Nat) (hi : i < l.length) : w.cell? ⟨g, i * 6 + 3, none⟩ = some (.int .i64 (l.getD i default).h.diff) := h.2 i 3 hi (by decide)
theorem AtBlk.c4 {w : World} {g : Nat} {l : List BlkV} (h : AtBlk w g l) (i : Nat) (hi : i < l.length) : w.cell? ⟨g, i * 6 + 4, none⟩ = some (.int .i64 (l.getD i default).h.nonce) := h.2 i 4 hi (by decide)
theorem AtBlk.c5 {w : World} {g : Nat} {l : List BlkV} (h : AtBlk w g l) (i : Nat) (hi : i < l.length) : w.cell? ⟨g, i * 6 + 5, none⟩ = some (.slice (some ⟨(l.getD i default).g, 0, none⟩) (l.getD i default).n (l.getD i default).cap) := h.2 i 5 hi (by decide)
abbrev HRow (B : Nat) (v : Value) (l : List HeadV) (w : World) : Prop := FRow enHead 24 5 B v l w
abbrev BRow (B : Nat) (v : Value) (l : List BlkV) (w : World) : Prop := FRow enBlk 70 6 B v l w
theorem getD_map {l : List BlkV} {i : Nat} (h : i < l.length) : (l.map (·.h)).getD i default = (l.getD i default).h := by
  simp [List.getElem?_eq_getElem h]
theorem take_map {l : List BlkV} {k : Nat} (hk : k < l.length) : (l.take (k + 1)).map (·.h) = (l.take k).map (·.h) ++ [(l.getD k default).h] := by
  rw [List.take_add_one, List.getElem?_eq_getElem hk, List.map_append]
  simp [List.getElem?_eq_getElem hk]
theorem enHead_one (h : HeadV) : ∀ u ∈ enHead h, u.oneCell' = true := by
  intro u hu
  simp only [enHead, List.mem_cons, List.not_mem_nil, or_false] at hu
  rcases hu with rfl | rfl | rfl | rfl | rfl <;> rfl
theorem enBlk_one (b : BlkV) : ∀ u ∈ enBlk b, u.oneCell' = true := by
  intro u hu
  simp only [enBlk, List.mem_cons, List.not_mem_nil, or_false] at hu
  rcases hu with rfl | rfl | rfl | rfl | rfl | rfl <;> rfl

set_option maxHeartbeats 2000000 in
set_option maxRecDepth 100000 in
theorem specL4Heads (g n cap : Nat) (bs : List BlkV) (w : World) (h : AtBlk w g bs) (hn : n = bs.length) (hm : n ≤ 1048576) :
    Calls Tryz.prog 25 #[.slice (some ⟨g, 0, none⟩) n cap] w fun e w' => ∃ v, e = .returned v ∧ HRow w.heap.size v (bs.map (·.h)) w' ∧ Below w.heap.size w w' := by
  obtain ⟨i0, hi, hz0, hz1, hz2⟩ := info3 infoHead
  have HA : Hid (AtBlk w g bs) := h
  have HN : Hid (n = bs.length) := hn
  have HE : Hid (bs.map (·.h) = (bs.take n).map (·.h)) := by show _ = _; rw [hn, List.take_length]
  have R0 : Hid (HRow w.heap.size (.slice (some ⟨w.heap.size, 0, none⟩) 0 0) [] (w.alloc (.cells #[] 24))) := frow_new _ _ _ w
  have B0 : Hid (Below w.heap.size w (w.alloc (.cells #[] 24))) := (Below.refl _ w).alloc (Nat.le_refl _) _
  clear h hn
  go_enter Tryz.func25, Tryz.ntmps25
  go_wp2_with fail
  go_loopw [3, 4] (fun v i wr => ∃ k g2 c2 : Nat, k ≤ n ∧ i = .int .i64 (k : Int) ∧ v = .slice (some ⟨g2, 0, none⟩) k c2 ∧ Hid (HRow w.heap.size v ((bs.take k).map (·.h)) wr) ∧ Hid (Below w.heap.size w wr)) (fun _ i _ => n - (intOf i).toNat)
  case atStart => exact ⟨0, w.heap.size, 0, by omega, rfl, rfl, R0, B0⟩
  case round =>
    clear R0 B0
    obtain ⟨k, g2, c2, hk, rfl, rfl, R, HB⟩ := hrel
    by_cases hlt : k < n
    · have hkl : k < bs.length := by rw [← HN.out]; exact hlt
      have HAr : Hid (AtBlk wr g bs) := HA.out.below HB.out HA.out.1
      have q0 := AtBlk.c0 HAr.out k hkl
      have q1 := AtBlk.c1 HAr.out k hkl
      have q2 := AtBlk.c2 HAr.out k hkl
      have q3 := AtBlk.c3 HAr.out k hkl
      have q4 := AtBlk.c4 HAr.out k hkl
      have lk : (k : Int) < (n : Int) := by omega
      have lk0 : (0 : Int) ≤ (k : Int) := by omega
      have wk : IntKind.i64.wrap ((k : Int) + 1) = (k : Int) + 1 := by rw [IntKind.wrap_i64]; omega
      have HK : Hid (k + 1 ≤ n) := hlt
      have HL : Hid ((bs.take k).length = k) := by show _ = _; rw [List.length_take]; omega
      have HT : Hid ((bs.take (k + 1)).map (·.h) = (bs.take k).map (·.h) ++ [(bs.getD k default).h]) := take_map hkl
      have HOW : Hid (wr.ownsRow w.heap.size 24 5 (.slice (some ⟨g2, 0, none⟩) k c2) k (((bs.take k).map (·.h)).flatMap enHead)) := by
        have := R.out.2
        rw [List.length_map, HL.out] at this
        exact this
      have hsz := HB.out.size
      generalize (bs.getD k default).h = p at q0 q1 q2 q3 q4 HT
      have hu := enHead_one p
      have hx1 : k + 1 ≤ maxLen := by unfold maxLen; omega
      have hx2 : (k + 1) * 56 ≤ 140737488355328 := by omega
      clear hkl R
      go_wp2_with (at_builtin; refine wp_appN rfl _ _ 73 rfl w.heap.size 24 i0 (.agg #[.string ⟨#[]⟩, .string ⟨#[]⟩, .int .i64 0, .int .i64 0, .int .i64 0]) 5 56 1 Tryz.underlying73 hi hz0 hz1 hz2 rfl (by decide) (by decide) _ _ _ rfl HOW.out (enHead p) rfl rfl hu hx1 hx2 hsz ?_; intro g4 c4 w4 hown4 hb4 hkeep4)
      have R4 : Hid (HRow w.heap.size (.slice (some ⟨g4, 0, none⟩) (k + 1) c4) ((bs.take (k + 1)).map (·.h)) w4) := by
        refine FRow.of ?_ ?_
        · rw [HT.out, List.flatMap_append]
          simpa using hown4
        · rw [HT.out, List.length_append, List.length_map, HL.out]; rfl
      have B4 : Hid (Below w.heap.size w w4) := HB.out.trans hb4
      clear hown4 hb4 hkeep4
      go_wp2_with fail
      go_roundw
      case rel => exact ⟨k + 1, g4, c4, HK.out, by go_num, rfl, R4, B4⟩
      case measure => have := HK.out; simp [intOf]; omega
    · obtain rfl : k = n := by omega
      go_wp2_with fail
      go_ret
      exact ⟨_, rfl, by rw [HE.out]; exact R.out, HB.out⟩

end Go.Proofs.YtialhnocknogpaaGreatDoor

set_option linter.unusedVariables false
namespace Go.Proofs.YtialhnocknogpaaGreatDoor
open Go.RowKit

theorem meets_yes {h : HeadV} (hok : headOkB h = true) : headMeets h = decide ((headOf (headX h) : Int) / 65536 * h.diff < 32768) := by rw [headMeets, hok, Bool.true_and]
theorem meets_no {h : HeadV} (hok : headOkB h = false) : headMeets h = false := by rw [headMeets, hok, Bool.false_and]

set_option maxHeartbeats 1000000 in
set_option maxRecDepth 100000 in
theorem specL3Meets (h : HeadV) (w : World) (hok : headOkB h = true) :
    Calls Tryz.prog 87 #[headVal h] w fun e w' => e = .returned (.bool (headMeets h)) ∧ Below w.heap.size w w' := by
  rw [meets_yes hok]
  have hpt := fun w' => specL3Sum h w' hok
  have hsh := fun w' => specHead ⟨(sumB (headX h)).toArray⟩ w' (isSum_sumB _)
  have e1 : ((hexN ((⟨(sumB (headX h)).toArray⟩ : ByteArray).data.toList.take 8) / 2 : Nat) : Int) = (headOf (headX h) : Int) := rfl
  rw [e1] at hsh
  clear e1
  have hhl := headOf_lt (headX h)
  generalize sumB (headX h) = sb at hpt hsh
  generalize headOf (headX h) = hd at hsh hhl ⊢
  obtain ⟨_, _, h3, h4, h5⟩ := headOk_in hok
  unfold headVal at hpt ⊢
  clear hok
  obtain ⟨p, r, t, d, n⟩ := h
  dsimp only at h3 h4 h5 hpt ⊢
  have ed : (hd : Int).tdiv 65536 = (hd : Int) / 65536 := Int.tdiv_eq_ediv_of_nonneg (by omega)
  have hq0 : 0 ≤ (hd : Int) / 65536 := by omega
  have hq1 : (hd : Int) / 65536 ≤ 32767 := by omega
  generalize (hd : Int) / 65536 = q at ed hq0 hq1 ⊢
  have hm1 : q * d ≤ 32767 * 8 := Int.mul_le_mul hq1 h4.2 (by omega) (by omega)
  have hm0 : 0 ≤ q * d := Int.mul_nonneg hq0 (by omega)
  have wq : IntKind.i64.wrap q = q := by rw [IntKind.wrap_i64]; omega
  have wm : IntKind.i64.wrap (q * d) = q * d := by generalize q * d = x at hm0 hm1 ⊢; rw [IntKind.wrap_i64]; omega
  have S1 : HSt w _ w.heap.size p r t d n := HSt.new w 24 p r t d n
  go_enter Tryz.func87, Tryz.ntmps87
  go_wp2_with fail
  go_region_held3 (fun w' => w'.cell? ⟨w.heap.size, 0, none⟩ = some (.string p) ∧ w'.cell? ⟨w.heap.size, 1, none⟩ = some (.string r) ∧ w'.cell? ⟨w.heap.size, 2, none⟩ = some (.int .i64 t) ∧ w'.cell? ⟨w.heap.size, 3, none⟩ = some (.int .i64 d) ∧ w'.cell? ⟨w.heap.size, 4, none⟩ = some (.int .i64 n))
    (first | (with_reducible first | exact S2.out | exact S1.out | exact S1.drew.out) | go_keep)
    (first
      | (go_at_call 61; refine (hpt _).mono ?_; rintro e w2 ⟨rfl, b2⟩; have S2 : HSt w w2 w.heap.size p r t d n := S1.drew.call b2)
      | (go_at_call 99; refine (hsh _).mono ?_; rintro e w3 ⟨rfl, rfl⟩))
  go_wp2_with fail
  go_ret
  exact ⟨rfl, S2.2.1⟩

end Go.Proofs.YtialhnocknogpaaGreatDoor

set_option linter.unusedVariables false
namespace Go.Proofs.YtialhnocknogpaaGreatDoor
open Go.RowKit

theorem implSumNil (w : World) (hK : RowG w shaK) : Calls Tryz.prog 35 #[.string ⟨#[]⟩] w fun e w' => e = .returned (.string (bsum [])) ∧ Below w.heap.size w w' := by
  have h : ∀ t : ByteArray, t = ⟨#[]⟩ → Calls Tryz.prog 35 #[.string t] w fun e w' => e = .returned (.string (bsum t.data.toList)) ∧ Below w.heap.size w w' := by
    intro t ht
    exact implSum t w (by rw [ht]; decide) hK
  exact h ⟨#[]⟩ rfl
theorem rootL_nil {ss : List ByteArray} (h : ss = []) : rootL ss = bsum [] := by rw [rootL, if_pos h]
theorem rootL_cons {ss : List ByteArray} (h : ss ≠ []) : rootL ss = rootR (ss.map rootItemB) := by rw [rootL, if_neg h]

end Go.Proofs.YtialhnocknogpaaGreatDoor

set_option linter.unusedVariables false
namespace Go.Proofs.YtialhnocknogpaaGreatDoor
open Go.RowKit Go.Deep

theorem sameB (a b : ByteArray) : (a.toList == b.toList) = decide (a = b) := by
  rw [Bool.eq_iff_iff, beq_iff_eq, decide_eq_true_eq, ByteArray.toList_eq, ByteArray.toList_eq]
  constructor
  · intro h
    exact ByteArray.ext (by simpa using h)
  · intro h
    rw [h]
def sideOkB (x : SideV) : Bool := isSum x.sum.data.toList
def sidesOkB (l : List SideV) : Bool := decide (l.length ≤ 8) && (List.range l.length).all fun i => sideOkB (l.getD i default)
theorem sidesOk_no {l : List SideV} (i : Nat) (hi : i < l.length) (h : sideOkB (l.getD i default) = false) : sidesOkB l = false := by
  have : ((List.range l.length).all fun i => sideOkB (l.getD i default)) = false := by
    rw [List.all_eq_false]
    exact ⟨i, List.mem_range.2 hi, by rw [h]; decide⟩
  rw [sidesOkB, this, Bool.and_false]
theorem sidesOk_long {l : List SideV} (h : ¬ l.length ≤ 8) : sidesOkB l = false := by rw [sidesOkB, decide_eq_false h, Bool.false_and]
theorem sidesOk_yes {l : List SideV} (h : l.length ≤ 8) (h2 : ∀ i, i < l.length → sideOkB (l.getD i default) = true) : sidesOkB l = true := by
  rw [sidesOkB, decide_eq_true h, Bool.true_and, List.all_eq_true]
  exact fun i hi => h2 i (List.mem_range.1 hi)
theorem sidesOk_at {l : List SideV} (h : sidesOkB l = true) : l.length ≤ 8 ∧ ∀ i, i < l.length → sideOkB (l.getD i default) = true := by
  rw [sidesOkB, Bool.and_eq_true, decide_eq_true_eq, List.all_eq_true] at h
  exact ⟨h.1, fun i hi => h.2 i (List.mem_range.2 hi)⟩
def stepS (s : ByteArray) (x : SideV) : ByteArray := if x.left = true then bothB x.sum s else bothB s x.sum
def wayTo (s : ByteArray) (l : List SideV) : Nat → ByteArray
  | 0 => s
  | k + 1 => stepS (wayTo s l k) (l.getD k default)
theorem wayTo_size {s : ByteArray} (hs : s.size = 16) (l : List SideV) : ∀ k, (wayTo s l k).size = 16
  | 0 => hs
  | k + 1 => by
    show (stepS _ _).size = 16
    unfold stepS
    split <;> exact bsum_size _
def rootCheckB (root item : ByteArray) (l : List SideV) : Bool := isItem item.data.toList && (sidesOkB l && decide (wayTo (rootItemB item) l l.length = root))

end Go.Proofs.YtialhnocknogpaaGreatDoor

set_option linter.unusedVariables false
namespace Go.Proofs.YtialhnocknogpaaGreatDoor
open Go.RowKit Go.Deep

def blockOkB (h : HeadV) (ss : List ByteArray) : Bool := headMeets h && (decide (ss.length ≤ 6) && (itemsOkB ss && decide (h.root = rootL ss)))

/-- The six cells. -/
theorem CBk.out6 {w : World} {g : Nat} {T : TypeId} {a b c d e f : Value} (h : CBk w g T #[a, b, c, d, e, f]) : w.cell? ⟨g, 0, none⟩ = some a ∧ w.cell? ⟨g, 1, none⟩ = some b ∧ w.cell? ⟨g, 2, none⟩ = some c ∧ w.cell? ⟨g, 3, none⟩ = some d ∧ w.cell? ⟨g, 4, none⟩ = some e ∧ w.cell? ⟨g, 5, none⟩ = some f := ⟨h.cell 0, h.cell 1, h.cell 2, h.cell 3, h.cell 4, h.cell 5⟩
theorem CBk.drew {w : World} {g : Nat} {T : TypeId} {cs : Array Value} (h : CBk w g T cs) : CBk w.drew g T cs := h

end Go.Proofs.YtialhnocknogpaaGreatDoor

set_option linter.unusedVariables false
namespace Go.Proofs.YtialhnocknogpaaGreatDoor
open Go.RowKit Go.Deep

theorem firstC {p : Nat → Bool} : ∀ (n k : Nat), k < n → p k = true → (∀ j, j < k → p j = false) → (List.range n).find? p = some k
  | 0, k, hk, _, _ => by omega
  | n + 1, k, hk, hp, hj => by
    rw [List.range_succ, List.find?_append]
    by_cases h : k < n
    · rw [firstC n k h hp hj]
      rfl
    · obtain rfl : k = n := by omega
      have : (List.range k).find? p = none := List.find?_eq_none.2 fun j hj' => by rw [hj j (List.mem_range.1 hj')]; decide
      rw [this]
      simp [hp]
theorem noneC {p : Nat → Bool} {n : Nat} (h : ∀ j, j < n → p j = false) : (List.range n).find? p = none := List.find?_eq_none.2 fun j hj' => by rw [h j (List.mem_range.1 hj')]; decide
theorem getD_take {l : List HeadV} {i j : Nat} (h : j < i) : (l.take i).getD j default = l.getD j default := by
  simp [h]
theorem AtHead.take {w : World} {g : Nat} {l : List HeadV} (h : AtHead w g l) (i : Nat) : AtHead w g (l.take i) :=
  ⟨h.1, fun a b ha hb => by
    have h1 : a < i ∧ a < l.length := by rw [List.length_take] at ha; omega
    rw [getD_take h1.1]
    exact h.2 a b h1.2 hb⟩

def zeros16 : ByteArray := ⟨#[48, 48, 48, 48, 48, 48, 48, 48, 48, 48, 48, 48, 48, 48, 48, 48]⟩
def lastH (l : List HeadV) : HeadV := l.getD (l.length - 1) default
/-- The time between the last and the one three ahead of it. -/
def spanH (l : List HeadV) : Int := (lastH l).time - (l.getD (l.length - 4) default).time
def hardV (l : List HeadV) : Int :=
  if l.length = 0 then 1
  else if l.length % 4 = 0 then
    if spanH l < 20 then min ((lastH l).diff + 1) 8
    else if 60 < spanH l then max ((lastH l).diff - 1) 1
    else (lastH l).diff
  else (lastH l).diff
def sumH (h : HeadV) : ByteArray := ⟨(sumB (headX h)).toArray⟩
def prevV (l : List HeadV) : ByteArray := if l.length = 0 then zeros16 else sumH (lastH l)
def laterB (l : List HeadV) (t : Int) : Bool := decide (l.length = 0 ∨ (lastH l).time < t)
def fitsB (l : List HeadV) (h : HeadV) : Bool := headOkB h && (headMeets h && (decide (h.diff = hardV l) && (decide (h.prev = prevV l) && laterB l h.time)))
def standsB (l : List HeadV) (h : HeadV) : Bool := fitsB l h && decide (l.length < 20)
def stepC (l : List HeadV) (i : Nat) : Bool := standsB (l.take i) (l.getD i default)
def chainCk (l : List HeadV) : Nat := match (List.range l.length).find? fun i => !(stepC l i) with
  | some i => i + 1
  | none => 0
theorem ck_bad {l : List HeadV} {i : Nat} (hi : i < l.length) (hf : stepC l i = false) (hj : ∀ j, j < i → stepC l j = true) : chainCk l = i + 1 := by
  unfold chainCk
  rw [firstC l.length i hi (by rw [hf]; rfl) (fun j h => by rw [hj j h]; rfl)]
theorem ck_good {l : List HeadV} (hj : ∀ j, j < l.length → stepC l j = true) : chainCk l = 0 := by
  unfold chainCk
  rw [noneC (fun j h => by rw [hj j h]; rfl)]
theorem ck_zero {l : List HeadV} (h : chainCk l = 0) : ∀ j, j < l.length → stepC l j = true := by
  unfold chainCk at h
  split at h
  · omega
  · rename_i hn
    rw [List.find?_eq_none] at hn
    intro j hj
    have := hn j (List.mem_range.2 hj)
    simpa using this
theorem step_ok {l : List HeadV} {i : Nat} (h : stepC l i = true) : headOkB (l.getD i default) = true := by
  simp only [stepC, standsB, fitsB, Bool.and_eq_true] at h
  exact h.1.1
theorem step_lt {l : List HeadV} {i : Nat} (hi : i < l.length) (h : stepC l i = true) : i < 20 := by
  simp only [stepC, standsB, Bool.and_eq_true, decide_eq_true_eq, List.length_take] at h
  omega
theorem ck_len {l : List HeadV} (h : chainCk l = 0) : l.length ≤ 20 := by
  rcases Nat.lt_or_ge 20 l.length with h' | h'
  · have := step_lt h' (ck_zero h 20 h')
    omega
  · exact h'
theorem ck_ok {l : List HeadV} (h : chainCk l = 0) : ∀ i, i < l.length → headOkB (l.getD i default) = true := fun i hi => step_ok (ck_zero h i hi)
theorem ck_le (l : List HeadV) : chainCk l ≤ l.length := by
  unfold chainCk
  split
  · rename_i i hi
    have := List.mem_of_find?_eq_some hi
    have := List.mem_range.1 this
    omega
  · omega
theorem take_ok {l : List HeadV} {i : Nat} (h : ∀ j, j < i → stepC l j = true) : ∀ j, j < (l.take i).length → headOkB ((l.take i).getD j default) = true := by
  intro j hj
  have h1 : j < i ∧ j < l.length := by rw [List.length_take] at hj; omega
  rw [getD_take h1.1]
  exact step_ok (h j h1.1)
theorem lastH_ok {l : List HeadV} (hn : 0 < l.length) (h : ∀ i, i < l.length → headOkB (l.getD i default) = true) : headOkB (lastH l) = true := h _ (by omega)
theorem hard_in {l : List HeadV} (h : ∀ i, i < l.length → headOkB (l.getD i default) = true) : 1 ≤ hardV l ∧ hardV l ≤ 8 := by
  unfold hardV
  split
  · omega
  · rename_i hn
    have := headOk_in (lastH_ok (by omega) h)
    split <;> (try split) <;> (try split) <;> omega

end Go.Proofs.YtialhnocknogpaaGreatDoor

set_option linter.unusedVariables false
namespace Go.Proofs.YtialhnocknogpaaGreatDoor
open Go.RowKit Go.Deep

theorem hard_0 {l : List HeadV} (h : l.length = 0) : hardV l = 1 := by rw [hardV, if_pos h]
theorem hard_odd {l : List HeadV} (h : l.length ≠ 0) (h4 : l.length % 4 ≠ 0) : hardV l = (lastH l).diff := by rw [hardV, if_neg h, if_neg h4]
theorem hard_low {l : List HeadV} (h : l.length ≠ 0) (h4 : l.length % 4 = 0) (hs : spanH l < 20) : hardV l = min ((lastH l).diff + 1) 8 := by rw [hardV, if_neg h, if_pos h4, if_pos hs]
theorem hard_high {l : List HeadV} (h : l.length ≠ 0) (h4 : l.length % 4 = 0) (hs : 60 < spanH l) : hardV l = max ((lastH l).diff - 1) 1 := by rw [hardV, if_neg h, if_pos h4, if_neg (by omega), if_pos hs]
theorem hard_mid {l : List HeadV} (h : l.length ≠ 0) (h4 : l.length % 4 = 0) (h1 : ¬ spanH l < 20) (h2 : ¬ 60 < spanH l) : hardV l = (lastH l).diff := by rw [hardV, if_neg h, if_pos h4, if_neg h1, if_neg h2]

end Go.Proofs.YtialhnocknogpaaGreatDoor

set_option linter.unusedVariables false
namespace Go.Proofs.YtialhnocknogpaaGreatDoor
open Go.RowKit Go.Deep

theorem sameS (a b : ByteArray) : (a.toList == b.toList) = decide (a = b) := by
  rw [Bool.eq_iff_iff, beq_iff_eq, decide_eq_true_eq, ByteArray.toList_eq, ByteArray.toList_eq]
  constructor
  · intro h
    exact ByteArray.ext (by simpa using h)
  · intro h
    rw [h]
/-- What the k-th rule says. -/
def ruleB (l : List HeadV) (h : HeadV) : Nat → Bool
  | 0 => headOkB h
  | 1 => headMeets h
  | 2 => decide (h.diff = hardV l)
  | 3 => decide (h.prev = prevV l)
  | 4 => laterB l h.time
  | _ => decide (l.length < 20)
theorem upTo6 {k : Nat} (h : k < 6) : k = 0 ∨ k = 1 ∨ k = 2 ∨ k = 3 ∨ k = 4 ∨ k = 5 := by omega
theorem stands_all {l : List HeadV} {h : HeadV} (hr : ∀ k, k < 6 → ruleB l h k = true) : standsB l h = true := by
  have h0 := hr 0 (by decide)
  have h1 := hr 1 (by decide)
  have h2 := hr 2 (by decide)
  have h3 := hr 3 (by decide)
  have h4 := hr 4 (by decide)
  have h5 := hr 5 (by decide)
  simp only [ruleB] at h0 h1 h2 h3 h4 h5
  rw [standsB, fitsB, h0, h1, h2, h3, h4, h5]
  rfl
theorem stands_no {l : List HeadV} {h : HeadV} {k : Nat} (hk : k < 6) (hr : ruleB l h k = false) : standsB l h = false := by
  rw [standsB, fitsB]
  rcases upTo6 hk with rfl | rfl | rfl | rfl | rfl | rfl <;> simp only [ruleB] at hr <;> rw [hr] <;> simp

/-- What a rule needs: the heads ahead, which are ok, and the tables. -/
structure Ahead (g n : Nat) (l : List HeadV) (w : World) : Prop where
  at_ : AtHead w g l
  len : n = l.length
  max : n ≤ 1048576
  ok : ∀ i, i < l.length → headOkB (l.getD i default) = true
  k : RowG w shaK
  p : TabP w
theorem Ahead.below {g n : Nat} {l : List HeadV} {w w' : World} (h : Ahead g n l w) (hb : Below w.heap.size w w') : Ahead g n l w' :=
  ⟨h.at_.below hb h.at_.1, h.len, h.max, h.ok, h.k.below hb h.k.lt, TabP.below h.p hb (Nat.le_refl _)⟩

end Go.Proofs.YtialhnocknogpaaGreatDoor

set_option linter.unusedVariables false
namespace Go.Proofs.YtialhnocknogpaaGreatDoor
open Go.RowKit Go.Extern.Stop Go.Stop Go.Extern

theorem as_rlm (z : Sem Value) (f : TypeId → Addr → Nat → Nat → Sem Value) (v : Value) :
    ReflectliteValue.method z f #[v] = (do match ← ReflectliteValue.parts v with | none => z | some (t, a, fl) => f t a fl (fl % 32)) := rfl
theorem as_rls (v x : Value) : ReflectliteValue.set #[v, x] = (do
    let (some (dst, a, fl), some (src, b, _)) := (← ReflectliteValue.parts v, ← ReflectliteValue.parts x)
      | unsupported (.noEntry "extern/(internal/reflectlite.Value).Set.zeroValue")
    if fl / ReflectliteValue.flagAddr % 2 == 0 then unsupported (.noEntry "extern/(internal/reflectlite.Value).Set.unaddressable")
    let val ← loadVar src b
    if ← Rtype.directlyAssignable dst src then storeVar dst a val
    else if ← Rtype.implements dst src then
      if (← Rtype.kind src) == 20 then
        match val with
        | .nilIface => unsupported (.noEntry "extern/reflectlite: a nil value of one interface type handed on as a value of another")
        | _ => storeVar dst a val
      else storeVar dst a (.iface src val)
    else panicString ("reflectlite.Set: value of type " ++ (← Rtype.spelt src) ++ " is not assignable to type " ++ (← Rtype.spelt dst))
    pure (.tuple #[])) := rfl
theorem as_sizeI (w : World) : (sizeOf 3).run Tryz.prog w = .ok 1 w := by kernel_rfl
end Go.Proofs.YtialhnocknogpaaGreatDoor

set_option linter.unusedVariables false
namespace Go.Proofs.YtialhnocknogpaaGreatDoor
open Go.RowKit Go.Deep

end Go.Proofs.YtialhnocknogpaaGreatDoor

set_option linter.unusedVariables false
namespace Go.Proofs.YtialhnocknogpaaGreatDoor
open Go.RowKit Go.Deep

/-- A list of heads in memory, and the tables. -/
structure Chain (g n cap : Nat) (l : List HeadV) (w : World) : Prop where
  at_ : AtHead w g l
  len : n = l.length
  max : n ≤ 1048576
  cap : n ≤ cap
  k : RowG w shaK
  p : TabP w
theorem Chain.below {g n cap : Nat} {l : List HeadV} {w w' : World} (h : Chain g n cap l w) (hb : Below w.heap.size w w') : Chain g n cap l w' :=
  ⟨h.at_.below hb h.at_.1, h.len, h.max, h.cap, h.k.below hb h.k.lt, TabP.below h.p hb (Nat.le_refl _)⟩
theorem Chain.ahead {g n cap : Nat} {l : List HeadV} {w : World} (h : Chain g n cap l w) {k : Nat} (hk : k < n) (hs : ∀ q, q < k → stepC l q = true) : Ahead g k (l.take k) w :=
  ⟨h.at_.take k, by rw [List.length_take, ← h.len]; omega, by have := h.max; omega, take_ok hs, h.k, h.p⟩
theorem Chain.take {g n cap : Nat} {l : List HeadV} {w : World} (h : Chain g n cap l w) {k : Nat} (hk : k ≤ n) : Chain g k cap (l.take k) w :=
  ⟨h.at_.take k, by rw [List.length_take, ← h.len]; omega, by have := h.max; omega, by have := h.cap; omega, h.k, h.p⟩

end Go.Proofs.YtialhnocknogpaaGreatDoor

set_option linter.unusedVariables false
namespace Go.Proofs.YtialhnocknogpaaGreatDoor
open Go.RowKit Go.Deep

/-- The heads ahead, as the specification needs them. -/
structure AheadS (g n : Nat) (l : List HeadV) (w : World) : Prop where
  at_ : AtHead w g l
  len : n = l.length
  max : n ≤ 1048576
  ok : ∀ i, i < l.length → headOkB (l.getD i default) = true
theorem AheadS.below {g n : Nat} {l : List HeadV} {w w' : World} (h : AheadS g n l w) (hb : Below w.heap.size w w') : AheadS g n l w' :=
  ⟨h.at_.below hb h.at_.1, h.len, h.max, h.ok⟩

set_option maxHeartbeats 1000000 in
set_option maxRecDepth 100000 in
theorem specL4Diff (g n cap : Nat) (l : List HeadV) (w : World) (hA : AheadS g n l w) :
    Calls Tryz.prog 60 #[.slice (some ⟨g, 0, none⟩) n cap] w fun e w' => e = .returned (.int .i64 (hardV l)) ∧ Below w.heap.size w w' := by
  have hn := hA.len
  have hm := hA.max
  have hok := hA.ok
  by_cases h0 : n = 0
  · have HV : Hid (hardV l = 1) := hard_0 (by omega)
    subst h0
    clear hA hn hok
    go_enter Tryz.func60, Tryz.ntmps60
    go_wp2_with fail
    go_ret
    exact ⟨by rw [HV.out]; rfl, Below.refl _ _⟩
  obtain ⟨j, hj⟩ : ∃ j, n = j + 1 := ⟨n - 1, by omega⟩
  have hjl : j < l.length := by omega
  have c0 := AtHead.c0 hA.at_ j hjl
  have c1 := AtHead.c1 hA.at_ j hjl
  have c2 := AtHead.c2 hA.at_ j hjl
  have c3 := AtHead.c3 hA.at_ j hjl
  have c4 := AtHead.c4 hA.at_ j hjl
  have HL : lastH l = l.getD j default := by rw [lastH, ← hn, hj, Nat.add_sub_cancel]
  have hgl := hA.at_.1
  have hw1 : IntKind.i64.wrap ((n : Int) - 1) = (j : Int) := by rw [IntKind.wrap_i64]; omega
  have lj : (j : Int) < (n : Int) := by omega
  have lj0 : (0 : Int) ≤ (j : Int) := by omega
  have hn0 : ¬ (n : Int) = 0 := by omega
  obtain ⟨_, _, ht, hd, _⟩ := headOk_in (hok j hjl)
  have hrem : (n : Int).tmod 4 = ((n % 4 : Nat) : Int) := rfl
  by_cases h4 : n % 4 = 0
  · obtain ⟨i, hi⟩ : ∃ i, n = i + 4 := ⟨n - 4, by omega⟩
    have hil : i < l.length := by omega
    have d2 := AtHead.c2 hA.at_ i hil
    obtain ⟨_, _, ht2, _⟩ := headOk_in (hok i hil)
    have HSP : spanH l = (l.getD j default).time - (l.getD i default).time := by rw [spanH, HL, ← hn, hi, Nat.add_sub_cancel]
    have hw4 : IntKind.i64.wrap ((n : Int) - 4) = (i : Int) := by rw [IntKind.wrap_i64]; omega
    have li : (i : Int) < (n : Int) := by omega
    have li0 : (0 : Int) ≤ (i : Int) := by omega
    have HLO : Hid (spanH l < 20 → hardV l = min ((l.getD j default).diff + 1) 8) := fun hs => by rw [hard_low (by omega) (by rw [← hn]; exact h4) hs, HL]
    have HHI : Hid (60 < spanH l → hardV l = max ((l.getD j default).diff - 1) 1) := fun hs => by rw [hard_high (by omega) (by rw [← hn]; exact h4) hs, HL]
    have HMI : Hid (¬ spanH l < 20 → ¬ 60 < spanH l → hardV l = (l.getD j default).diff) := fun h1 h2 => by rw [hard_mid (by omega) (by rw [← hn]; exact h4) h1 h2, HL]
    rw [HSP] at HLO HHI HMI
    rw [h4] at hrem
    generalize hardV l = H at HLO HHI HMI ⊢
    generalize l.getD j default = p at c0 c1 c2 c3 c4 ht hd HLO HHI HMI
    generalize l.getD i default = q at d2 ht2 HLO HHI HMI
    have hws : IntKind.i64.wrap (p.time - q.time) = p.time - q.time := by rw [IntKind.wrap_i64]; omega
    have hwa : IntKind.i64.wrap (p.diff + 1) = p.diff + 1 := by rw [IntKind.wrap_i64]; omega
    have hwb : IntKind.i64.wrap (p.diff - 1) = p.diff - 1 := by rw [IntKind.wrap_i64]; omega
    have f2 : w.drew.cell? ⟨g, j * 5 + 2, none⟩ = some (.int .i64 p.time) := c2
    have f4 : w.drew.cell? ⟨g, i * 5 + 2, none⟩ = some (.int .i64 q.time) := d2
    clear hA hok HL HSP hjl hil hn hj hi h0 h4 hm
    by_cases hs : p.time - q.time < 20
    · by_cases hd8 : p.diff < 8
      · have HV : Hid (H = p.diff + 1) := by have := HLO.out hs; show _ = _; omega
        clear HLO HHI HMI
        go_enter Tryz.func60, Tryz.ntmps60
        go_wp2_with fail
        go_big_region
        go_wp2_with fail
        go_ret
        exact ⟨by rw [HV.out]; rfl, (Below.refl _ _).drew⟩
      · have hs2 : ¬ 60 < p.time - q.time := by omega
        have HV : Hid (H = p.diff) := by have := HLO.out hs; show _ = _; omega
        clear HLO HHI HMI
        go_enter Tryz.func60, Tryz.ntmps60
        go_wp2_with fail
        go_big_region
        go_wp2_with fail
        go_ret
        exact ⟨by rw [HV.out]; rfl, (Below.refl _ _).drew⟩
    · by_cases hs2 : 60 < p.time - q.time
      · by_cases hd1 : 1 < p.diff
        · have HV : Hid (H = p.diff - 1) := by have := HHI.out hs2; show _ = _; omega
          clear HLO HHI HMI
          go_enter Tryz.func60, Tryz.ntmps60
          go_wp2_with fail
          go_big_region
          go_wp2_with fail
          go_ret
          exact ⟨by rw [HV.out]; rfl, (Below.refl _ _).drew⟩
        · have HV : Hid (H = p.diff) := by have := HHI.out hs2; show _ = _; omega
          clear HLO HHI HMI
          go_enter Tryz.func60, Tryz.ntmps60
          go_wp2_with fail
          go_big_region
          go_wp2_with fail
          go_ret
          exact ⟨by rw [HV.out]; rfl, (Below.refl _ _).drew⟩
      · have HV : Hid (H = p.diff) := HMI.out hs hs2
        clear HLO HHI HMI
        go_enter Tryz.func60, Tryz.ntmps60
        go_wp2_with fail
        go_big_region
        go_wp2_with fail
        go_ret
        exact ⟨by rw [HV.out]; rfl, (Below.refl _ _).drew⟩
  · have HV : Hid (hardV l = (l.getD j default).diff) := by show _ = _; rw [hard_odd (by omega) (by rw [← hn]; exact h4), HL]
    have hr4 : ¬ ((n % 4 : Nat) : Int) = 0 := by omega
    generalize hardV l = H at HV ⊢
    generalize n % 4 = r at hrem hr4
    generalize l.getD j default = p at c0 c1 c2 c3 c4 ht hd HV
    clear hA hok HL hjl hn hj h0 h4 hm
    go_enter Tryz.func60, Tryz.ntmps60
    go_wp2_with fail
    go_ret
    exact ⟨by rw [HV.out]; rfl, Below.refl _ _⟩

theorem specL4Zero (w : World) : Calls Tryz.prog 58 #[] w fun e w' => e = .returned (.string zeros16) ∧ w' = w := by
  go_enter Tryz.func58, Tryz.ntmps58
  go_wp2_with fail
  go_ret
  exact ⟨rfl, rfl⟩

theorem fits_no1 {l : List HeadV} {h : HeadV} (hk : headOkB h = false) : fitsB l h = false := by rw [fitsB, hk, Bool.false_and]
theorem fits_no2 {l : List HeadV} {h : HeadV} (hk : headMeets h = false) : fitsB l h = false := by rw [fitsB, hk]; simp
theorem fits_no3 {l : List HeadV} {h : HeadV} (hk : h.diff ≠ hardV l) : fitsB l h = false := by rw [fitsB, decide_eq_false hk]; simp
theorem fits_rest {l : List HeadV} {h : HeadV} (h1 : headOkB h = true) (h2 : headMeets h = true) (h3 : h.diff = hardV l) : fitsB l h = (decide (h.prev = prevV l) && laterB l h.time) := by
  rw [fitsB, h1, h2, decide_eq_true h3]; rfl

end Go.Proofs.YtialhnocknogpaaGreatDoor

set_option linter.unusedVariables false
namespace Go.Proofs.YtialhnocknogpaaGreatDoor
open Go.RowKit Go.Deep

/-- A list of heads in memory, as the specification needs it. -/
structure ChainSp (g n cap : Nat) (l : List HeadV) (w : World) : Prop where
  at_ : AtHead w g l
  len : n = l.length
  max : n ≤ 1048576
  cap : n ≤ cap
  wf : ∀ i, i < l.length → wfHead (l.getD i default)
theorem ChainSp.below {g n cap : Nat} {l : List HeadV} {w w' : World} (h : ChainSp g n cap l w) (hb : Below w.heap.size w w') : ChainSp g n cap l w' :=
  ⟨h.at_.below hb h.at_.1, h.len, h.max, h.cap, h.wf⟩
theorem ChainSp.ahead {g n cap : Nat} {l : List HeadV} {w : World} (h : ChainSp g n cap l w) {k : Nat} (hk : k < n) (hs : ∀ q, q < k → stepC l q = true) : AheadS g k (l.take k) w :=
  ⟨h.at_.take k, by rw [List.length_take, ← h.len]; omega, by have := h.max; omega, take_ok hs⟩
theorem ChainSp.whole {g n cap : Nat} {l : List HeadV} {w : World} (h : ChainSp g n cap l w) (hc : chainCk l = 0) : AheadS g n l w := ⟨h.at_, h.len, h.max, ck_ok hc⟩
theorem step_far {l : List HeadV} {k : Nat} (hk : k < l.length) (h : 20 ≤ k) : stepC l k = false := by
  rw [stepC, standsB, decide_eq_false (by rw [List.length_take]; omega), Bool.and_false]
theorem step_near {l : List HeadV} {k : Nat} (hk : k < l.length) (h : k < 20) : stepC l k = fitsB (l.take k) (l.getD k default) := by
  rw [stepC, standsB, decide_eq_true (by rw [List.length_take]; omega), Bool.and_true]

end Go.Proofs.YtialhnocknogpaaGreatDoor

set_option linter.unusedVariables false
namespace Go.Proofs.YtialhnocknogpaaGreatDoor
open Go.RowKit Go.Deep

def ptsOf (bs : List BlkV) : List (HeadV × List ByteArray) := bs.map fun b => (b.h, b.ss)
def allOk (ps : List (HeadV × List ByteArray)) : Bool := ps.all fun p => blockOkB p.1 p.2
def okP (ps : List (HeadV × List ByteArray)) : Bool := decide (chainCk (ps.map (·.1)) = 0) && allOk ps
theorem pts_heads (bs : List BlkV) : (ptsOf bs).map (·.1) = bs.map (·.h) := by simp [ptsOf]
theorem blk_mem {bs : List BlkV} {k : Nat} (h : k < bs.length) : bs.getD k default ∈ bs := by rw [List.getD_eq_getElem?_getD, List.getElem?_eq_getElem h]; exact List.getElem_mem h
theorem allOk_bad {bs : List BlkV} {k : Nat} (hk : k < bs.length) (h : blockOkB (bs.getD k default).h (bs.getD k default).ss = false) : allOk (ptsOf bs) = false := by
  rw [allOk, List.all_eq_false]
  refine ⟨((bs.getD k default).h, (bs.getD k default).ss), List.mem_map.2 ⟨_, blk_mem hk, rfl⟩, ?_⟩
  simp only [h]
  decide
theorem allOk_good {bs : List BlkV} (h : ∀ k, k < bs.length → blockOkB (bs.getD k default).h (bs.getD k default).ss = true) : allOk (ptsOf bs) = true := by
  rw [allOk, List.all_eq_true]
  intro p hp
  obtain ⟨b, hb, rfl⟩ := List.mem_map.1 hp
  obtain ⟨i, hi, he⟩ := List.mem_iff_getElem.1 hb
  have := h i hi
  rw [List.getD_eq_getElem?_getD, List.getElem?_eq_getElem hi] at this
  rw [← he]
  exact this
theorem okP_no {bs : List BlkV} (h : chainCk (bs.map (·.h)) ≠ 0) : okP (ptsOf bs) = false := by rw [okP, pts_heads, decide_eq_false h, Bool.false_and]
theorem okP_yes {bs : List BlkV} (h : chainCk (bs.map (·.h)) = 0) : okP (ptsOf bs) = allOk (ptsOf bs) := by rw [okP, pts_heads, decide_eq_true h, Bool.true_and]

theorem makeHead0 (n : Nat) (hn : n ≤ 1048576) (w : World) : (Instr.makeSlice 73 (.int .i64 0) (.int .i64 (n : Int))).run Tryz.prog w = .ok (.slice (some ⟨w.heap.size, 0, none⟩) 0 n) (w.alloc (.cells ((List.replicate n zeroHead).flatMap enHead).toArray 24)) := by
  obtain ⟨i, hi, hz, hs, hb⟩ := info_parts infoHead
  have hb' : (i.bytes : Int) * (n : Int) ≤ 281474976710656 := by rw [hb]; omega
  have hr := run_make (P := Tryz.prog) w 73 24 i _ Tryz.underlying73 hi hz .i64 .i64 0 (n : Int) (by omega) (by omega) hb' (by omega)
  simp only [Int.toNat_natCast, hs, Value.cells] at hr
  rw [← made_flat 5 enHead enHead_len (by decide) zeroHead n]
  exact hr

/-- A list of blocks in memory. -/
structure Blks (g n cap : Nat) (bs : List BlkV) (w : World) : Prop where
  at_ : AtBlk w g bs
  items : ∀ b ∈ bs, ItemsAt w b
  len : n = bs.length
  max : n ≤ 1048576
theorem Blks.below {g n cap : Nat} {bs : List BlkV} {w w' : World} (h : Blks g n cap bs w) (hb : Below w.heap.size w w') : Blks g n cap bs w' :=
  ⟨h.at_.below hb h.at_.1, fun b hb' => ⟨(h.items b hb').1.below hb (h.items b hb').1.1, (h.items b hb').2⟩, h.len, h.max⟩

/-- What the specification needs of a list of blocks: short texts, few items. -/
structure BlksS (g n cap : Nat) (bs : List BlkV) (w : World) : Prop where
  b : Blks g n cap bs w
  wf : ∀ b ∈ bs, wfHead b.h
  few : ∀ b ∈ bs, b.n ≤ 1048576
  small : ∀ b ∈ bs, ∀ i, i < b.ss.length → (b.ss.getD i ByteArray.empty).size ≤ 1048576
theorem BlksS.below {g n cap : Nat} {bs : List BlkV} {w w' : World} (h : BlksS g n cap bs w) (hb : Below w.heap.size w w') : BlksS g n cap bs w' :=
  ⟨h.b.below hb, h.wf, h.few, h.small⟩

end Go.Proofs.YtialhnocknogpaaGreatDoor

set_option linter.unusedVariables false
namespace Go.Proofs.YtialhnocknogpaaGreatDoor
open Go.RowKit Go.Deep

structure PdV where
  a : Int
  h : HeadV
  pk : List PeakV
  st : List PeakV
  sd : List SideV
def zeroPd : PdV := ⟨0, ⟨⟨#[]⟩, ⟨#[]⟩, 0, 0, 0⟩, [], [], []⟩
/-- The place, and the place of the item, are there. -/
def inPd (ps : List (HeadV × List ByteArray)) (x y : Int) : Prop := okP ps = true ∧ (0 ≤ x ∧ x < (ps.length : Int)) ∧ (0 ≤ y ∧ y < ((ps.getD x.toNat default).2.length : Int))
open Classical in
noncomputable def paidOfL (ps : List (HeadV × List ByteArray)) (x y : Int) : PdV := if inPd ps x y then ⟨x, (ps.getD x.toNat default).1, ofP (ps.map (·.1)) ps.length, notesN (leafF (ps.map (·.1))) x.toNat ps.length, sidesR (ps.getD x.toNat default).2.length ((ps.getD x.toNat default).2.map rootItemB) y.toNat⟩ else zeroPd
theorem paidOfL_no {ps : List (HeadV × List ByteArray)} {x y : Int} (h : ¬ inPd ps x y) : paidOfL ps x y = zeroPd := by rw [paidOfL, if_neg h]
theorem paidOfL_yes {ps : List (HeadV × List ByteArray)} {X Y : Nat} (h : inPd ps (X : Int) (Y : Int)) : paidOfL ps (X : Int) (Y : Int) = ⟨(X : Int), (ps.getD X default).1, ofP (ps.map (·.1)) ps.length, notesN (leafF (ps.map (·.1))) X ps.length, sidesR (ps.getD X default).2.length ((ps.getD X default).2.map rootItemB) Y⟩ := by
  rw [paidOfL, if_pos h]
  rfl
/-- The nine cells of a proof that was handed back. -/
def pdCells (v : PdV) (vp vs vd : Value) : Array Value := #[.int .i64 v.a, .string v.h.prev, .string v.h.root, .int .i64 v.h.time, .int .i64 v.h.diff, .int .i64 v.h.nonce, vp, vs, vd]
def PdPost (B : Nat) (v : PdV) (w : World) (e : Ending) (w' : World) : Prop := ∃ vp vs vd, e = .returned (.agg (pdCells v vp vs vd)) ∧ Pks B vp v.pk w' ∧ Pks B vs v.st w' ∧ Sds B vd v.sd w' ∧ Below w.heap.size w w'
/-- The three lists of an answer are apart. -/
def Dis3 (v : PdV) (e : Ending) : Prop := ∀ vp vs vd b, e = .returned (.agg (pdCells v vp vs vd)) → (blkOf vp b → ¬ blkOf vs b ∧ ¬ blkS vd b) ∧ (blkOf vs b → ¬ blkS vd b)
theorem blkS_of (v : Value) (b : Nat) : blkS v b ↔ blkOf v b := by
  cases v with
  | slice a n c => cases a <;> exact Iff.rfl
  | _ => exact Iff.rfl
/-- A list of sides and one of peaks stand in blocks of different types. -/
theorem sd_pk {w : World} {B C : Nat} {u v : Value} {p : List PeakV} {s : List SideV} (hp : Pks B u p w) (hs : Sds C v s w) (b : Nat) (h1 : blkOf u b) : ¬ blkS v b := by
  intro h2
  rcases hp with ⟨rfl, _⟩ | ⟨g, cap, rfl, _, ⟨cur, hc, _⟩, _⟩
  · exact absurd h1 (by simp [blkOf])
  rcases hs with ⟨rfl, _⟩ | ⟨g', cap', rfl, _, ⟨cur', hc', _⟩, _⟩
  · exact absurd h2 (by simp [blkS])
  have e1 : g = b := h1
  have e2 : g' = b := h2
  subst e1
  subst e2
  rw [hc] at hc'
  simp only [Option.some.injEq, Obj.cells.injEq] at hc'
  exact absurd hc'.2.1 (by decide)
theorem inPd_facts {ps : List (HeadV × List ByteArray)} {x y : Int} (h : inPd ps x y) : headsB (ps.map (·.1)) = true ∧ (∀ p ∈ ps, itemsOkB p.2 = true) := by
  obtain ⟨h1, _, _⟩ := h
  rw [okP, Bool.and_eq_true, decide_eq_true_eq] at h1
  refine ⟨heads_good (ck_len h1.1) (ck_ok h1.1), fun p hp => ?_⟩
  have h2 := h1.2
  rw [allOk, List.all_eq_true] at h2
  have h3 := h2 p hp
  simp only [blockOkB, Bool.and_eq_true] at h3
  exact h3.2.2.1
theorem pd_len (bs : List BlkV) : (ptsOf bs).length = bs.length := by simp [ptsOf]
theorem pd_at {bs : List BlkV} {k : Nat} (h : k < bs.length) : (ptsOf bs).getD k default = ((bs.getD k default).h, (bs.getD k default).ss) := by
  simp [ptsOf, List.getD_eq_getElem?_getD, List.getElem?_eq_getElem h]
end Go.Proofs.YtialhnocknogpaaGreatDoor

set_option linter.unusedVariables false
namespace Go.Proofs.YtialhnocknogpaaGreatDoor
open Go.RowKit Go.Deep

/-- A block of heads that may be written. -/
def HdBk (w : World) (g n : Nat) : Prop := ∃ cur : Array Value, w.heap[g]? = some (.cells cur 24 (0, 0)) ∧ n * 5 ≤ cur.size
theorem HdBk.lt {w : World} {g n : Nat} (h : HdBk w g n) : g < w.heap.size := by
  obtain ⟨cur, h1, _⟩ := h
  rcases Nat.lt_or_ge g w.heap.size with h' | h'
  · exact h'
  · simp [Array.getElem?_eq_none h'] at h1
theorem HdBk.keep {w w' : World} {g n : Nat} (h : HdBk w g n) (hk : w'.heap[g]? = w.heap[g]?) : HdBk w' g n := by
  obtain ⟨cur, h1, h2⟩ := h
  exact ⟨cur, hk.trans h1, h2⟩
theorem HdBk.below {w w' : World} {g n B : Nat} (h : HdBk w g n) (hb : Below B w w') (hg : g < B) : HdBk w' g n := h.keep (hb.block g hg)
theorem HdBk.cell {w : World} {g n : Nat} (h : HdBk w g n) (i : Nat) (hi : i < n * 5) : (∃ v, w.cell? ⟨g, i, none⟩ = some v) ∧ w.frozen? ⟨g, i, none⟩ = false := by
  obtain ⟨cur, h1, h2⟩ := h
  refine ⟨?_, Lib.frozen_of_heap h1 i⟩
  rw [Lib.cell_of_heap h1]
  have hic : i < cur.size := by omega
  exact ⟨cur[i], Array.getElem?_eq_getElem hic⟩
theorem HdBk.set {w : World} {g n : Nat} (h : HdBk w g n) (i : Nat) (v : Value) : HdBk (w.setCell ⟨g, i, none⟩ v) g n := by
  obtain ⟨cur, h1, h2⟩ := h
  exact ⟨cur.setIfInBounds i v, by simp [World.setCell, Array.getElem?_modify, h1], by simpa using h2⟩
theorem HdBk.of {w : World} {g : Nat} {l : List HeadV} (h : RowHead w g l) : HdBk w g l.length := ⟨_, h, by simp [flat_length 5 enHead enHead_len]⟩
def MHPost (g n k : Nat) (w : World) (e : Ending) (w' : World) : Prop := e = .returned (.int .i64 ((k + 5 * n : Nat) : Int)) ∧ (∀ c, c < w.heap.size → c ≠ g → w'.heap[c]? = w.heap[c]?) ∧ Below 0 w w'
end Go.Proofs.YtialhnocknogpaaGreatDoor

set_option linter.unusedVariables false
namespace Go.Proofs.YtialhnocknogpaaGreatDoor
open Go.ChangeShapes Go.WideShapes Go.ChangeAt Go.RowKit Go.Deep

/-- A list of peaks that holds its marks from k on. -/
def HeldK (v : Value) (n k : Nat) (w : World) : Prop := (v = .slice none 0 0 ∧ n = 0) ∨ ∃ g cap, v = .slice (some ⟨g, 0, none⟩) n cap ∧ g < w.heap.size ∧ MkP w g k n
theorem HeldK.below {v : Value} {n k : Nat} {w w' : World} (h : HeldK v n k w) (hb : Below w.heap.size w w') : HeldK v n k w' := by
  rcases h with h | ⟨g, cap, h1, h2, h3⟩
  · exact .inl h
  · exact .inr ⟨g, cap, h1, Nat.lt_of_lt_of_le h2 hb.size, h3.below hb h2⟩
theorem HeldK.keep {v : Value} {n k : Nat} {w w' : World} (h : HeldK v n k w) (hs : w.heap.size ≤ w'.heap.size) (hk : ∀ g, blkOf v g → w'.heap[g]? = w.heap[g]?) : HeldK v n k w' := by
  rcases h with h | ⟨g, cap, rfl, h2, h3⟩
  · exact .inl h
  · have hg := hk g rfl
    refine .inr ⟨g, cap, rfl, Nat.lt_of_lt_of_le h2 hs, fun i hi => ?_⟩
    obtain ⟨m1, m2, m3⟩ := h3 i hi
    exact ⟨(World.cell?_of_block (a := ⟨g, i * 3, none⟩) hg).trans m1, (World.cell?_of_block (a := ⟨g, i * 3 + 1, none⟩) hg).trans m2, (World.cell?_of_block (a := ⟨g, i * 3 + 2, none⟩) hg).trans m3⟩
/-- A proof that holds its marks. -/
def HeldPf (u v : Value) (n m : Nat) (w : World) : Prop := HeldK u n 1 w ∧ HeldK v m (1 + 3 * n) w ∧ (∃ a c d, u = .slice a c d) ∧ (∃ a c d, v = .slice a c d)
theorem HeldPf.below {u v : Value} {n m : Nat} {w w' : World} (h : HeldPf u v n m w) (hb : Below w.heap.size w w') : HeldPf u v n m w' := ⟨h.1.below hb, h.2.1.below hb, h.2.2.1, h.2.2.2⟩
end Go.Proofs.YtialhnocknogpaaGreatDoor

set_option linter.unusedVariables false
namespace Go.Proofs.YtialhnocknogpaaGreatDoor
open Go.ChangeShapes Go.WideShapes Go.ChangeAt Go.RowKit Go.Deep

theorem CBk.nineP {w : World} {g : Nat} {T : TypeId} {a b c d e f x y z : Value} (h : CBk w g T #[a, b, c, d, e, f, x, y, z]) : w.cell? ⟨g, 0, none⟩ = some a ∧ w.cell? ⟨g, 1, none⟩ = some b ∧ w.cell? ⟨g, 2, none⟩ = some c ∧ w.cell? ⟨g, 3, none⟩ = some d ∧ w.cell? ⟨g, 4, none⟩ = some e ∧ w.cell? ⟨g, 5, none⟩ = some f ∧ w.cell? ⟨g, 6, none⟩ = some x ∧ w.cell? ⟨g, 7, none⟩ = some y ∧ w.cell? ⟨g, 8, none⟩ = some z :=
  ⟨h.cell 0, h.cell 1, h.cell 2, h.cell 3, h.cell 4, h.cell 5, h.cell 6, h.cell 7, h.cell 8⟩
/-- A proof that an item is there that holds its marks. -/
def HeldPd (u1 u2 u3 : Value) (n m k : Nat) (w : World) : Prop := HeldPf u1 u2 n m w ∧ HeldS u3 k (1 + 3 * n + 3 * m) w ∧ ∃ a c d, u3 = .slice a c d
theorem HeldPd.below {u1 u2 u3 : Value} {n m k : Nat} {w w' : World} (h : HeldPd u1 u2 u3 n m k w) (hb : Below w.heap.size w w') : HeldPd u1 u2 u3 n m k w' := ⟨h.1.below hb, h.2.1.below hb, h.2.2⟩
theorem HeldPf.keep {u v : Value} {n m : Nat} {w w' : World} (h : HeldPf u v n m w) (hs : w.heap.size ≤ w'.heap.size) (hu : ∀ g, blkOf u g → w'.heap[g]? = w.heap[g]?) (hv : ∀ g, blkOf v g → w'.heap[g]? = w.heap[g]?) : HeldPf u v n m w' := ⟨h.1.keep hs hu, h.2.1.keep hs hv, h.2.2.1, h.2.2.2⟩
end Go.Proofs.YtialhnocknogpaaGreatDoor

