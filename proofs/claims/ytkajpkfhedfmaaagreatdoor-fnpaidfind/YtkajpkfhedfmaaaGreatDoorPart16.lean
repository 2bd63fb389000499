/-
  Texts that the last part needs, joined.
-/
import Derived.Test.YtkajpkfhedfmaaaGreatDoorPart1
import Derived.Test.YtkajpkfhedfmaaaGreatDoorPart2
import Derived.Test.YtkajpkfhedfmaaaGreatDoorPart3
import Derived.Test.YtkajpkfhedfmaaaGreatDoorPart4
import Derived.Test.YtkajpkfhedfmaaaGreatDoorPart5
import Derived.Test.YtkajpkfhedfmaaaGreatDoorPart6
import Derived.Test.YtkajpkfhedfmaaaGreatDoorPart7
import Derived.Test.YtkajpkfhedfmaaaGreatDoorPart8
import Derived.Test.YtkajpkfhedfmaaaGreatDoorPart9
import Derived.Test.YtkajpkfhedfmaaaGreatDoorPart10
import Derived.Test.YtkajpkfhedfmaaaGreatDoorPart11
import Derived.Test.YtkajpkfhedfmaaaGreatDoorPart12
import Derived.Test.YtkajpkfhedfmaaaGreatDoorPart13
import Derived.Test.YtkajpkfhedfmaaaGreatDoorPart14
import Derived.Test.YtkajpkfhedfmaaaGreatDoorPart15
import Derived.Deep.RegionHeld3
set_option linter.unusedVariables false
namespace Go.Proofs.YtkajpkfhedfmaaaGreatDoor
open Go.RowKit Go.Deep

/-- What stands while a proof is looked at: the head, the proof. -/
structure ChkW (w wr : World) (g0 : Nat) (h : HeadV) (s : PrfV) : Prop where
  a : CBk wr g0 36 #[.string h.prev, .string h.root, .int .i64 h.time, .int .i64 h.diff, .int .i64 h.nonce]
  b : CBk wr (g0 + 1) 44 #[.slice (some ⟨s.g, 0, none⟩) s.n s.c, .slice (some ⟨s.sg, 0, none⟩) s.sn s.sc]
  l : Below w.heap.size w wr
  z : g0 + 2 ≤ wr.heap.size
  lo : w.heap.size ≤ g0
theorem ChkW.call {w wr w' : World} {g0 : Nat} {h : HeadV} {s : PrfV} (c : ChkW w wr g0 h s) (hb : Below wr.heap.size wr w') : ChkW w w' g0 h s :=
  ⟨c.a.call hb, c.b.call hb, c.l.trans (hb.mono c.l.size), Nat.le_trans c.z hb.size, c.lo⟩
theorem ChkW.new (w : World) (h : HeadV) (s : PrfV) : ChkW w ((w.alloc (.cells #[.string h.prev, .string h.root, .int .i64 h.time, .int .i64 h.diff, .int .i64 h.nonce] 36)).alloc (.cells #[.slice (some ⟨s.g, 0, none⟩) s.n s.c, .slice (some ⟨s.sg, 0, none⟩) s.sn s.sc] 44)) w.heap.size h s := by
  refine ⟨(CBk.new w _ _).alloc _, ?_, ((Below.refl _ w).alloc (Nat.le_refl _) _).alloc (by simp) _, by simp, Nat.le_refl _⟩
  have := CBk.new (w.alloc (.cells #[.string h.prev, .string h.root, .int .i64 h.time, .int .i64 h.diff, .int .i64 h.nonce] 36)) 44 #[.slice (some ⟨s.g, 0, none⟩) s.n s.c, .slice (some ⟨s.sg, 0, none⟩) s.sn s.sc]
  rwa [show (w.alloc (.cells #[.string h.prev, .string h.root, .int .i64 h.time, .int .i64 h.diff, .int .i64 h.nonce] 36)).heap.size = w.heap.size + 1 from by simp] at this

theorem check_way {root : ByteArray} {h : HeadV} {a : Int} {ps ss : List PeakV} {k : Nat} (hy : headOkB h = true ∧ 0 ≤ a ∧ ss.length ≤ 8 ∧ rangeOkB ps = true ∧ (⟨(rangeRoot ps).toArray⟩ : ByteArray) = root) (hp : placeP ps a = some k) :
    (walkTo (leafP h) (a - cntTo ps k).toNat ss ss.length = none → checkV root h a ps ss = -1) ∧ ∀ q l, walkTo (leafP h) (a - cntTo ps k).toNat ss ss.length = some (q, l) → checkV root h a ps ss = if samePB q (ps.getD k default) = true then wrkTo ps k + l else -1 := by
  rw [check_some hy hp]
  constructor
  · intro hw
    rw [climb_none hw]
    rfl
  · intro q l hw
    have hf := walk_fine hy.1 _ q l hw
    have hl := hf.l0
    rw [climb_some hw]
    cases samePB q (ps.getD k default) with
    | true => rw [if_pos rfl, if_neg (by omega), if_pos rfl]
    | false => rfl
theorem place_some {ps : List PeakV} {a : Int} {k : Nat} (h : placeP ps a = some k) : k < ps.length ∧ a < cntTo ps (k + 1) ∧ ∀ j, j < k → ¬ a < cntTo ps (j + 1) := by
  rw [placeP, List.find?_range_eq_some] at h
  obtain ⟨h1, h2, h3⟩ := h
  exact ⟨List.mem_range.1 h2, by simpa using h1, fun j hj => by simpa using h3 j hj⟩
theorem place_ge {ps : List PeakV} {a : Int} {k : Nat} (ha : 0 ≤ a) (h : placeP ps a = some k) : cntTo ps k ≤ a := by
  obtain ⟨_, _, h3⟩ := place_some h
  cases k with
  | zero => exact ha
  | succ k => have := h3 k (by omega); omega

end Go.Proofs.YtkajpkfhedfmaaaGreatDoor

set_option linter.unusedVariables false
namespace Go.Proofs.YtkajpkfhedfmaaaGreatDoor
open Go.RowKit Go.Deep

theorem ChkW.cells {w wr : World} {g0 : Nat} {h : HeadV} {s : PrfV} (c : ChkW w wr g0 h s) : (wr.cell? ⟨g0, 0, none⟩ = some (.string h.prev) ∧ wr.cell? ⟨g0, 1, none⟩ = some (.string h.root) ∧ wr.cell? ⟨g0, 2, none⟩ = some (.int .i64 h.time) ∧ wr.cell? ⟨g0, 3, none⟩ = some (.int .i64 h.diff) ∧ wr.cell? ⟨g0, 4, none⟩ = some (.int .i64 h.nonce)) ∧ (wr.cell? ⟨g0 + 1, 0, none⟩ = some (.slice (some ⟨s.g, 0, none⟩) s.n s.c) ∧ wr.cell? ⟨g0 + 1, 1, none⟩ = some (.slice (some ⟨s.sg, 0, none⟩) s.sn s.sc)) := ⟨c.a.cells5, c.b.out2⟩
theorem ChkW.alloc {w wr : World} {g0 : Nat} {h : HeadV} {s : PrfV} (c : ChkW w wr g0 h s) (o : Obj) : ChkW w (wr.alloc o) g0 h s := c.call ((Below.refl _ wr).alloc (Nat.le_refl _) o)
theorem ChkW.other {w wr : World} {g0 : Nat} {h : HeadV} {s : PrfV} (c : ChkW w wr g0 h s) {g : Nat} (hg : g0 + 2 ≤ g) (j : Nat) (v : Value) : ChkW w (wr.setCell ⟨g, j, none⟩ v) g0 h s := by
  have h2 := c.lo
  exact ⟨c.a.other (by omega) v, c.b.other (by omega) v, c.l.setCell (p := ⟨g, j, none⟩) (by show w.heap.size ≤ g; omega) v, by simpa [World.setCell] using c.z, h2⟩
theorem ChkW.other3 {w wr : World} {g0 : Nat} {h : HeadV} {s : PrfV} (c : ChkW w wr g0 h s) {g : Nat} (hg : g0 + 2 ≤ g) (x y z : Value) : ChkW w (((wr.setCell ⟨g, 0, none⟩ x).setCell ⟨g, 1, none⟩ y).setCell ⟨g, 2, none⟩ z) g0 h s := ((c.other hg 0 x).other hg 1 y).other hg 2 z
theorem gtk {ps : List PeakV} {i k : Nat} (h : i < k) : (ps.take k).getD i default = ps.getD i default := by simp [h]
theorem cnt_take {ps : List PeakV} {k : Nat} : ∀ j, j ≤ k → cntTo (ps.take k) j = cntTo ps j
  | 0, _ => rfl
  | j + 1, hj => by rw [cntTo, cntTo, cnt_take j (by omega), gtk (by omega)]
theorem wrk_take {ps : List PeakV} {k : Nat} : ∀ j, j ≤ k → wrkTo (ps.take k) j = wrkTo ps j
  | 0, _ => rfl
  | j + 1, hj => by rw [wrkTo, wrkTo, wrk_take j (by omega), gtk (by omega)]
theorem cnt_monoG {ps : List PeakV} (h : rangeOkB ps = true) {k : Nat} : ∀ d, k + d ≤ ps.length → cntTo ps k ≤ cntTo ps (k + d)
  | 0, _ => Int.le_refl _
  | d + 1, hd => by
    have ih := cnt_monoG h (k := k) d (by omega)
    have := rangeOk_at h (k + d) (by omega)
    rw [← Nat.add_assoc, cntTo]
    omega
theorem range_take {ps : List PeakV} (h : rangeOkB ps = true) {k : Nat} (hk : k ≤ ps.length) : rangeOkB (ps.take k) = true := by
  have hl : (ps.take k).length = k := by rw [List.length_take]; omega
  have hm := cnt_monoG h (k := k) (ps.length - k) (by omega)
  rw [show k + (ps.length - k) = ps.length from by omega] at hm
  rw [rangeOkB, Bool.and_eq_true, List.all_eq_true, decide_eq_true_eq] at h ⊢
  rw [hl]
  refine ⟨fun i hi => ?_, by rw [cnt_take k (Nat.le_refl _)]; omega⟩
  have hi := List.mem_range.1 hi
  have := h.1 i (List.mem_range.2 (by omega))
  rw [stepOk] at this ⊢
  rw [gtk hi]
  by_cases h0 : i = 0
  · subst h0
    simpa using this
  · rw [gtk (show i - 1 < k by omega)]
    exact this
theorem AtP.take {w : World} {g : Nat} {ps : List PeakV} (h : AtP w g ps) (k : Nat) : AtP w g (ps.take k) :=
  ⟨h.1, fun a b ha hb => by
    have h1 : a < k ∧ a < ps.length := by rw [List.length_take] at ha; omega
    rw [gtk h1.1]
    exact h.2 a b h1.2 hb⟩

end Go.Proofs.YtkajpkfhedfmaaaGreatDoor

set_option linter.unusedVariables false
namespace Go.Proofs.YtkajpkfhedfmaaaGreatDoor
open Go.ChangeShapes Go.WideShapes Go.ChangeAt Go.RowKit Go.Deep

theorem CopyPrf.at {B : Nat} {L : LPrf} {s : PrfV} {w : World} (h : CopyPrf B L s w) (hs : SmallPrf L) (hp : L.pl.length = L.pn) (hq : L.sl.length = L.sn) : PrfAt s w := by
  refine ⟨by rw [h.ps]; exact h.p.at 3 pEnc_len, by rw [h.pn, h.ps, hp], by rw [h.pn]; exact hs.pn, by rw [h.pc]; exact Nat.le_refl _, by rw [h.ss]; exact h.st.at 3 pEnc_len, by rw [h.sn, h.ss, hq], by rw [h.sn]; exact hs.sn⟩
end Go.Proofs.YtkajpkfhedfmaaaGreatDoor

set_option linter.unusedVariables false
namespace Go.Proofs.YtkajpkfhedfmaaaGreatDoor
open Go.RowKit Go.Deep

theorem bothXR (a b : ByteArray) : ((⟨#[98, 111, 116, 104, 32]⟩ : ByteArray) ++ a ++ (⟨#[32]⟩ : ByteArray) ++ b).data.toList = [98, 111, 116, 104, 32] ++ a.data.toList ++ [32] ++ b.data.toList := by simp
theorem bothZ {a b : ByteArray} (ha : a.size = 16) (hb : b.size = 16) : ((⟨#[98, 111, 116, 104, 32]⟩ : ByteArray) ++ a ++ (⟨#[32]⟩ : ByteArray) ++ b).size ≤ 1073741824 := by
  simp only [ByteArray.size_append, ha, hb]
  have e1 : (⟨#[98, 111, 116, 104, 32]⟩ : ByteArray).size = 5 := rfl
  have e2 : (⟨#[32]⟩ : ByteArray).size = 1 := rfl
  omega
theorem itemX (a : ByteArray) : ((⟨#[105, 116, 101, 109, 32]⟩ : ByteArray) ++ a).data.toList = [105, 116, 101, 109, 32] ++ a.data.toList := by simp
theorem itemZ {a : ByteArray} (ha : a.size ≤ 1048576) : ((⟨#[105, 116, 101, 109, 32]⟩ : ByteArray) ++ a).size ≤ 1073741824 := by
  rw [ByteArray.size_append]
  have e1 : (⟨#[105, 116, 101, 109, 32]⟩ : ByteArray).size = 5 := rfl
  omega
theorem rootcheck_no {root item : ByteArray} {l : List SideV} (h : isItem item.data.toList = false ∨ sidesOkB l = false) : rootCheckB root item l = false := by
  unfold rootCheckB
  rcases h with h | h <;> rw [h] <;> simp

end Go.Proofs.YtkajpkfhedfmaaaGreatDoor

set_option linter.unusedVariables false
namespace Go.Proofs.YtkajpkfhedfmaaaGreatDoor
open Go.RowKit Go.Deep

/-- Whether it is proved that a head stands at a place of a range, and was made. -/
def paidStandsB (root : ByteArray) (h : HeadV) (a : Int) (ps ss : List PeakV) : Bool := isSum root.data.toList && (headMeets h && decide (0 ≤ checkV root h a ps ss))
def paidB (root item : ByteArray) (h : HeadV) (a : Int) (ps ss : List PeakV) (ds : List SideV) : Bool := paidStandsB root h a ps ss && rootCheckB h.root item ds
theorem CBk.eightC {w : World} {g : Nat} {T : TypeId} {a b c d e f x y : Value} (h : CBk w g T #[a, b, c, d, e, f, x, y]) : w.cell? ⟨g, 0, none⟩ = some a ∧ w.cell? ⟨g, 1, none⟩ = some b ∧ w.cell? ⟨g, 2, none⟩ = some c ∧ w.cell? ⟨g, 3, none⟩ = some d ∧ w.cell? ⟨g, 4, none⟩ = some e ∧ w.cell? ⟨g, 5, none⟩ = some f ∧ w.cell? ⟨g, 6, none⟩ = some x ∧ w.cell? ⟨g, 7, none⟩ = some y :=
  ⟨h.cell 0, h.cell 1, h.cell 2, h.cell 3, h.cell 4, h.cell 5, h.cell 6, h.cell 7⟩

set_option maxHeartbeats 4000000 in
set_option maxRecDepth 100000 in
theorem implStands (L : LPaid) (v : PaidV) (root : ByteArray) (w : World) (ham : L.a ≤ 9223372036854775807) (hS : PrfAt v.s w) (hK : RowG w shaK) (hP : TabP w) :
    Calls Tryz.prog 64 #[pheadVal L v, .string root] w fun e w' => e = .returned (.bool (paidStandsB root L.h L.a v.s.ps v.s.ss)) ∧ Below w.heap.size w w' := by
  have L0 : Hid (Below w.heap.size w (w.alloc (.cells #[.int .i64 L.a, .string L.h.prev, .string L.h.root, .int .i64 L.h.time, .int .i64 L.h.diff, .int .i64 L.h.nonce, .slice (some ⟨v.s.g, 0, none⟩) v.s.n v.s.c, .slice (some ⟨v.s.sg, 0, none⟩) v.s.sn v.s.sc] 81))) := (Below.refl _ w).alloc (Nat.le_refl _) _
  have C0 : Hid (CBk (w.alloc (.cells #[.int .i64 L.a, .string L.h.prev, .string L.h.root, .int .i64 L.h.time, .int .i64 L.h.diff, .int .i64 L.h.nonce, .slice (some ⟨v.s.g, 0, none⟩) v.s.n v.s.c, .slice (some ⟨v.s.sg, 0, none⟩) v.s.sn v.s.sc] 81)) w.heap.size 81 #[.int .i64 L.a, .string L.h.prev, .string L.h.root, .int .i64 L.h.time, .int .i64 L.h.diff, .int .i64 L.h.nonce, .slice (some ⟨v.s.g, 0, none⟩) v.s.n v.s.c, .slice (some ⟨v.s.sg, 0, none⟩) v.s.sn v.s.sc]) := CBk.new w _ _
  have hso := fun w' => implSumOk root w'
  have HHM : Hid (∀ (w' : World), Below w.heap.size w w' → Calls Tryz.prog 49 #[headVal L.h] w' fun e w'' => e = .returned (.bool (headMeets L.h)) ∧ Below w'.heap.size w' w'') := fun w' hb => implHeadMeets L.h w' (hK.below hb hK.lt) (TabP.below hP hb (Nat.le_refl _))
  have HRC : Hid (∀ (w' : World), Below w.heap.size w w' → Calls Tryz.prog 103 #[.string root, headVal L.h, .int .i64 L.a, prfVal v.s] w' fun e w'' => e = .returned (.int .i64 (checkV root L.h L.a v.s.ps v.s.ss)) ∧ Below w'.heap.size w' w'') := fun w' hb => implRangeCheck root L.h L.a v.s w' ham (hS.below hb) (hK.below hb hK.lt) (TabP.below hP hb (Nat.le_refl _))
  unfold paidStandsB
  generalize isSum root.data.toList = q1 at hso ⊢
  generalize headMeets L.h = q2 at HHM ⊢
  generalize checkV root L.h L.a v.s.ps v.s.ss = x at HRC ⊢
  clear ham hS hK hP
  unfold headVal at HHM HRC
  unfold prfVal at HRC
  unfold pheadVal
  go_enter Tryz.func64, Tryz.ntmps64
  go_wp2_with fail
  refine (hso _).mono ?_
  rintro e w1 ⟨rfl, rfl⟩
  cases q1 with
  | false =>
    clear HHM HRC hso
    go_wp2_with fail
    go_ret
    exact ⟨rfl, L0.out⟩
  | true =>
  have hhm := HHM.out _ L0.out
  clear HHM hso
  go_wp2_with fail
  refine hhm.mono ?_
  rintro e w2 ⟨rfl, b2⟩
  have L2 : Hid (Below w.heap.size w w2) := L0.out.trans (b2.mono L0.out.size)
  have C2 : Hid (CBk w2 w.heap.size 81 #[.int .i64 L.a, .string L.h.prev, .string L.h.root, .int .i64 L.h.time, .int .i64 L.h.diff, .int .i64 L.h.nonce, .slice (some ⟨v.s.g, 0, none⟩) v.s.n v.s.c, .slice (some ⟨v.s.sg, 0, none⟩) v.s.sn v.s.sc]) := C0.out.call b2
  clear L0 C0 b2 hhm
  cases q2 with
  | false =>
    clear HRC
    go_wp2_with fail
    go_ret
    exact ⟨rfl, L2.out⟩
  | true =>
  have hrc := HRC.out _ L2.out
  clear HRC
  obtain ⟨c0, c1, c2, c3, c4, c5, c6, c7⟩ := C2.out.eightC
  go_wp2_with fail
  refine hrc.mono ?_
  rintro e w3 ⟨rfl, b3⟩
  have L3 : Hid (Below w.heap.size w w3) := L2.out.trans (b3.mono L2.out.size)
  clear hrc b3 L2 C2 c0 c1 c2 c3 c4 c5 c6 c7
  go_wp2_with fail
  go_ret
  exact ⟨by simp, L3.out⟩

set_option maxHeartbeats 4000000 in
set_option maxRecDepth 100000 in
theorem implPaidHas (L : LPaid) (v : PaidV) (ds : List SideV) (root item : ByteArray) (w : World) (ham : L.a ≤ 9223372036854775807) (hS : PrfAt v.s w) (hd : AtSide w v.g ds) (hn : v.n = ds.length) (hm : v.n ≤ 1073741824) (hK : RowG w shaK) (hP : TabP w) :
    Calls Tryz.prog 33 #[paidVal L v, .string root, .string item] w fun e w' => e = .returned (.bool (paidB root item L.h L.a v.s.ps v.s.ss ds)) ∧ Below w.heap.size w w' := by
  have L0 : Hid (Below w.heap.size w (w.alloc (.cells #[.int .i64 L.a, .string L.h.prev, .string L.h.root, .int .i64 L.h.time, .int .i64 L.h.diff, .int .i64 L.h.nonce, .slice (some ⟨v.s.g, 0, none⟩) v.s.n v.s.c, .slice (some ⟨v.s.sg, 0, none⟩) v.s.sn v.s.sc, .slice (some ⟨v.g, 0, none⟩) v.n v.c] 83))) := (Below.refl _ w).alloc (Nat.le_refl _) _
  have C0 : Hid (CBk (w.alloc (.cells #[.int .i64 L.a, .string L.h.prev, .string L.h.root, .int .i64 L.h.time, .int .i64 L.h.diff, .int .i64 L.h.nonce, .slice (some ⟨v.s.g, 0, none⟩) v.s.n v.s.c, .slice (some ⟨v.s.sg, 0, none⟩) v.s.sn v.s.sc, .slice (some ⟨v.g, 0, none⟩) v.n v.c] 83)) w.heap.size 83 #[.int .i64 L.a, .string L.h.prev, .string L.h.root, .int .i64 L.h.time, .int .i64 L.h.diff, .int .i64 L.h.nonce, .slice (some ⟨v.s.g, 0, none⟩) v.s.n v.s.c, .slice (some ⟨v.s.sg, 0, none⟩) v.s.sn v.s.sc, .slice (some ⟨v.g, 0, none⟩) v.n v.c]) := CBk.new w _ _
  have hst := implStands L v root _ ham (hS.below L0.out) (hK.below L0.out hK.lt) (TabP.below hP L0.out (Nat.le_refl _))
  have HRC : Hid (∀ (w' : World), Below w.heap.size w w' → Calls Tryz.prog 65 #[.string L.h.root, .string item, .slice (some ⟨v.g, 0, none⟩) v.n v.c] w' fun e w'' => e = .returned (.bool (rootCheckB L.h.root item ds)) ∧ Below w'.heap.size w' w'') := fun w' hb => implRootCheck v.g v.n v.c L.h.root item ds w' (hd.below hb hd.1) hn hm (hK.below hb hK.lt)
  unfold paidB
  generalize paidStandsB root L.h L.a v.s.ps v.s.ss = q1 at hst ⊢
  generalize rootCheckB L.h.root item ds = q2 at HRC ⊢
  clear ham hS hd hn hm hK hP
  unfold pheadVal at hst
  unfold paidVal
  go_enter Tryz.func33, Tryz.ntmps33
  go_wp2_with fail
  refine hst.mono ?_
  rintro e w1 ⟨rfl, b1⟩
  have L1 : Hid (Below w.heap.size w w1) := L0.out.trans (b1.mono L0.out.size)
  have C1 : Hid (CBk w1 w.heap.size 83 #[.int .i64 L.a, .string L.h.prev, .string L.h.root, .int .i64 L.h.time, .int .i64 L.h.diff, .int .i64 L.h.nonce, .slice (some ⟨v.s.g, 0, none⟩) v.s.n v.s.c, .slice (some ⟨v.s.sg, 0, none⟩) v.s.sn v.s.sc, .slice (some ⟨v.g, 0, none⟩) v.n v.c]) := C0.out.call b1
  clear L0 C0 b1 hst
  obtain ⟨c0, c1, c2, c3, c4, c5, c6, c7, c8⟩ := C1.out.nineC
  cases q1 with
  | false =>
    clear HRC
    go_wp2_with fail
    go_ret
    exact ⟨rfl, L1.out⟩
  | true =>
  have hrc := HRC.out _ L1.out
  clear HRC
  go_wp2_with fail
  refine hrc.mono ?_
  rintro e w2 ⟨rfl, b2⟩
  go_wp2_with fail
  go_ret
  exact ⟨by cases q2 <;> rfl, L1.out.trans (b2.mono L1.out.size)⟩

set_option maxHeartbeats 1000000 in
set_option maxRecDepth 100000 in
theorem implPaidCheck (L : LPaid) (v : PaidV) (ds : List SideV) (root item : ByteArray) (w : World) (ham : L.a ≤ 9223372036854775807) (hS : PrfAt v.s w) (hd : AtSide w v.g ds) (hn : v.n = ds.length) (hm : v.n ≤ 1073741824) (hK : RowG w shaK) (hP : TabP w) :
    Calls Tryz.prog 12 #[.string root, .string item, paidVal L v] w fun e w' => e = .returned (.bool (paidB root item L.h L.a v.s.ps v.s.ss ds)) ∧ Below w.heap.size w w' := by
  have L0 : Hid (Below w.heap.size w (w.alloc (.cells #[.int .i64 L.a, .string L.h.prev, .string L.h.root, .int .i64 L.h.time, .int .i64 L.h.diff, .int .i64 L.h.nonce, .slice (some ⟨v.s.g, 0, none⟩) v.s.n v.s.c, .slice (some ⟨v.s.sg, 0, none⟩) v.s.sn v.s.sc, .slice (some ⟨v.g, 0, none⟩) v.n v.c] 47))) := (Below.refl _ w).alloc (Nat.le_refl _) _
  have hop := implPaidOpen L v
  have HH : Hid (∀ w', Below w.heap.size w w' → Calls Tryz.prog 33 #[paidVal L v, .string root, .string item] w' fun e w'' => e = .returned (.bool (paidB root item L.h L.a v.s.ps v.s.ss ds)) ∧ Below w'.heap.size w' w'') := fun w' hb => implPaidHas L v ds root item w' ham (hS.below hb) (hd.below hb hd.1) hn hm (hK.below hb hK.lt) (TabP.below hP hb (Nat.le_refl _))
  generalize paidB root item L.h L.a v.s.ps v.s.ss ds = R at HH ⊢
  clear ham hS hd hn hm hK hP
  unfold paidVal at hop HH ⊢
  go_enter Tryz.func12, Tryz.ntmps12
  go_wp2_with fail
  refine (hop _).mono ?_
  rintro e w1 ⟨rfl, b1⟩
  have L1 : Hid (Below w.heap.size w w1) := L0.out.trans (b1.mono L0.out.size)
  clear L0 b1 hop
  go_wp2_with fail
  refine (HH.out _ L1.out).mono ?_
  rintro e w2 ⟨rfl, b2⟩
  go_wp2_with fail
  go_ret
  exact ⟨rfl, L1.out.trans (b2.mono L1.out.size)⟩

end Go.Proofs.YtkajpkfhedfmaaaGreatDoor

set_option linter.unusedVariables false
namespace Go.Proofs.YtkajpkfhedfmaaaGreatDoor
open Go.RowKit Go.Deep

theorem tree_fine {f : Nat → PeakV} {N : Nat} (hf : ∀ i, i < N → Fine (f i) 0 0) : ∀ (j a : Nat), a + 2 ^ j ≤ N → j ≤ 5 → Fine (treeT f a j) 0 j
  | 0, a, h, _ => hf a (by rw [Nat.pow_zero] at h; omega)
  | j + 1, a, h, h5 => by
    have e1 : 2 ^ (j + 1) = 2 ^ j + 2 ^ j := by rw [Nat.pow_succ']; omega
    rw [e1] at h
    have i1 : a + 2 ^ j ≤ N := Nat.le_trans (Nat.add_le_add_left (Nat.le_add_right _ _) a) h
    have i2 : a + 2 ^ j + 2 ^ j ≤ N := by rw [Nat.add_assoc]; exact h
    have h1 : Fine (treeT f a j) 0 j := tree_fine hf j a i1 (by omega)
    have h2 : Fine (treeT f (a + 2 ^ j) j) 0 j := tree_fine hf j (a + 2 ^ j) i2 (by omega)
    have c1 := h1.cnt
    have c2 := h2.cnt
    have w1 := h1.wk
    have w2 := h2.wk
    have l1 := h1.l1
    have l2 := h2.l1
    refine ⟨?_, h5, isSum_both _ _, ?_, Int.le_refl _, ?_⟩
    · show (treeT f a j).count + (treeT f (a + 2 ^ j) j).count = _
      rw [c1, c2, e1]
      omega
    · show (treeT f a j).count + (treeT f (a + 2 ^ j) j).count ≤ (treeT f a j).work + (treeT f (a + 2 ^ j) j).work ∧ (treeT f a j).work + (treeT f (a + 2 ^ j) j).work ≤ ((treeT f a j).count + (treeT f (a + 2 ^ j) j).count) * 8
      omega
    · show (0 : Int) ≤ (treeT f a j).work + (treeT f (a + 2 ^ j) j).work
      omega
theorem sibR_len (f : Nat → PeakV) : ∀ (j a k x : Nat), (sibR f a k j x).length = j
  | 0, _, _, _ => rfl
  | j + 1, a, k, x => by rw [sibR, List.length_cons, sibR_len f j]
theorem sibR_at (f : Nat → PeakV) : ∀ (j a k x i : Nat), i < j → (sibR f a k j x).getD i default = treeT f (a + (x / 2 ^ i + 1 - x / 2 ^ i % 2 * 2) * 2 ^ (k + i)) (k + i)
  | j + 1, a, k, x, 0, _ => by simp [sibR]
  | j + 1, a, k, x, i + 1, h => by
    have e1 : x / 2 / 2 ^ i = x / 2 ^ (i + 1) := by rw [Nat.div_div_eq_div_mul, ← Nat.pow_succ']
    rw [sibR, List.getD_cons_succ, sibR_at f j a (k + 1) (x / 2) i (by omega), e1, show k + 1 + i = k + (i + 1) from by omega]
theorem climb_to {f : Nat → PeakV} {N : Nat} (hf : ∀ i, i < N → Fine (f i) 0 0) (j a x : Nat) (ha : a + 2 ^ j ≤ N) (hj : 2 ^ j ≤ 20) (hx : x < 2 ^ j) : ∀ i, i ≤ j → ∃ l : Int, walkTo (f (a + x)) x (sibR f a 0 j x) i = some (treeT f (a + x / 2 ^ i * 2 ^ i) i, l) ∧ 0 ≤ l
  | 0, _ => ⟨0, by simp [walkTo, treeT], Int.le_refl _⟩
  | i + 1, hi => by
    obtain ⟨l, h1, h2⟩ := climb_to hf j a x ha hj hx i (by omega)
    have hs := sibR_at f j a 0 x i (by omega)
    rw [Nat.zero_add] at hs
    have hpos : 0 < 2 ^ i := Nat.two_pow_pos i
    have e1 : 2 ^ (i + 1) = 2 * 2 ^ i := Nat.pow_succ'
    have hle : 2 ^ (i + 1) ≤ 2 ^ j := Nat.pow_le_pow_right (by decide) hi
    have h4 : i ≤ 4 := by
      refine Classical.byContradiction fun h => ?_
      have : 2 ^ 5 ≤ 2 ^ i := Nat.pow_le_pow_right (by decide) (by omega)
      omega
    have ey : x / 2 ^ (i + 1) = x / 2 ^ i / 2 := by rw [Nat.div_div_eq_div_mul, ← Nat.pow_succ]
    obtain ⟨d, hd⟩ : ∃ d, j = i + 1 + d := ⟨j - (i + 1), by omega⟩
    have ej : 2 ^ j = 2 ^ d * (2 * 2 ^ i) := by rw [hd, Nat.pow_add, e1, Nat.mul_comm]
    have hy : x / 2 ^ i < 2 * 2 ^ d := by
      rw [Nat.div_lt_iff_lt_mul hpos]
      have : 2 * 2 ^ d * 2 ^ i = 2 ^ j := by rw [ej, Nat.mul_comm 2 (2 ^ d), Nat.mul_assoc]
      omega
    generalize hxy : x / 2 ^ i = y at h1 hs ey hy
    have hsib : (y + 1 - y % 2 * 2) < 2 * 2 ^ d := by omega
    have hin : ∀ z, z < 2 * 2 ^ d → a + z * 2 ^ i + 2 ^ i ≤ N := by
      intro z hz
      have h5 : (z + 1) * 2 ^ i ≤ 2 * 2 ^ d * 2 ^ i := Nat.mul_le_mul_right _ hz
      have h6 : 2 * 2 ^ d * 2 ^ i = 2 ^ j := by rw [ej, Nat.mul_comm 2 (2 ^ d), Nat.mul_assoc]
      rw [Nat.add_mul, Nat.one_mul, h6] at h5
      omega
    have f1 := tree_fine hf i (a + y * 2 ^ i) (hin y hy) (by omega)
    have f2 := tree_fine hf i (a + (y + 1 - y % 2 * 2) * 2 ^ i) (hin _ hsib) (by omega)
    have c20 : (treeT f (a + (y + 1 - y % 2 * 2) * 2 ^ i) i).count ≤ 20 := by
      rw [f2.cnt]
      have : 2 ^ i ≤ 20 := by omega
      exact_mod_cast this
    have hb : (peakOkB ((sibR f a 0 j x).getD i default) && decide (((sibR f a 0 j x).getD i default).count = (treeT f (a + y * 2 ^ i) i).count)) = true := by
      rw [hs, Bool.and_eq_true, decide_eq_true_eq, f1.cnt, f2.cnt]
      exact ⟨fine_ok f2 c20, rfl⟩
    have hw := f2.l1
    have e2 : x / 2 ^ (i + 1) * 2 ^ (i + 1) = y / 2 * 2 * 2 ^ i := by rw [ey, e1, Nat.mul_assoc]
    rw [e2]
    by_cases hm : y % 2 = 1
    · have hw2 := walk_left h1 hb (by rw [hxy]; exact hm)
      rw [hs] at hw2
      have e3 : y + 1 - y % 2 * 2 = y / 2 * 2 := by omega
      have e4 : a + y * 2 ^ i = a + y / 2 * 2 * 2 ^ i + 2 ^ i := by
        have : y = y / 2 * 2 + 1 := by omega
        rw [Nat.add_assoc, ← Nat.succ_mul]
        exact congrArg (fun z => a + z * 2 ^ i) this
      rw [e3, e4] at hw2
      rw [e3] at hw
      exact ⟨_, hw2, by omega⟩
    · have hw2 := walk_right h1 hb (by rw [hxy]; exact hm)
      rw [hs] at hw2
      have e3 : y + 1 - y % 2 * 2 = y / 2 * 2 + 1 := by omega
      have e5 : y = y / 2 * 2 := by omega
      have e4 : a + (y / 2 * 2 + 1) * 2 ^ i = a + y / 2 * 2 * 2 ^ i + 2 ^ i := by rw [Nat.add_mul, Nat.one_mul, Nat.add_assoc]
      rw [e3, e4, ← e5] at hw2
      rw [← e5]
      exact ⟨_, hw2, h2⟩
theorem same_refl (q : PeakV) : samePB q q = true := by simp [samePB]
/-- What is noted for a leaf climbs. -/
theorem climb_yes {l : List HeadV} (hok : ∀ i, i < l.length → headOkB (l.getD i default) = true) (j a x : Nat) (ha : a + 2 ^ j ≤ l.length) (hj : 2 ^ j ≤ 20) (hx : x < 2 ^ j) : 0 ≤ climbV (treeT (leafF l) a j) (l.getD (a + x) default) x (sibT (leafF l) a j x) := by
  obtain ⟨w, h1, h2⟩ := climb_to (f := leafF l) (N := l.length) (fun i hi => fine_leaf (hok i hi)) j a x ha hj hx j (Nat.le_refl _)
  rw [Nat.div_eq_of_lt hx, Nat.zero_mul, Nat.add_zero, sibR_eq _ _ _ _ hx] at h1
  have hlen : (sibT (leafF l) a j x).length = j := by rw [← sibR_eq _ _ _ _ hx]; exact sibR_len _ _ _ _ _
  have h3 : walkTo (leafP (l.getD (a + x) default)) x (sibT (leafF l) a j x) (sibT (leafF l) a j x).length = some (treeT (leafF l) a j, w) := by rw [hlen]; exact h1
  rw [climb_some h3, if_pos (same_refl _)]
  exact h2
/-- What RangeProof tells of ok heads and a place among them passes RangeCheck. -/
theorem check_proof {l : List HeadV} (hok : ∀ i, i < l.length → headOkB (l.getD i default) = true) (hl : l.length ≤ 20) (x : Nat) (hx : x < l.length) (hr : rangeOkB (ofP l l.length) = true) : 0 ≤ checkV ⟨(rangeRoot (ofP l l.length)).toArray⟩ (l.getD x default) (x : Int) (ofP l l.length) (notesN (leafF l) x l.length) := by
  obtain ⟨t, t1, t2, t3⟩ := stk_shp (leafF_cnt l) x l.length
  have hp := stk_peaks t1
  obtain ⟨k, a, i, k1, k2, k3, k4, k5, k6, k7, k8⟩ := shp_place (leafF_cnt l) x t l.length 0 t2 hx
  have hc := shp_cnt (leafF_cnt l) t l.length 0 t2
  have hmono := cnt_mono (peaksT_pos (leafF_cnt l) t) ((peaksT (leafF l) t).length - (k + 1)) (k + 1) (by omega)
  rw [show k + 1 + ((peaksT (leafF l) t).length - (k + 1)) = (peaksT (leafF l) t).length from by omega, hc, cntTo, k4, k5, treeT_cnt (leafF_cnt l)] at hmono
  have hai : a + 2 ^ i ≤ l.length := by
    generalize 2 ^ i = P at hmono ⊢
    omega
  have hi20 : 2 ^ i ≤ 20 := by omega
  have h4 : i ≤ 4 := by
    refine Classical.byContradiction fun h => ?_
    have : 2 ^ 5 ≤ 2 ^ i := Nat.pow_le_pow_right (by decide) (by omega)
    omega
  have hlt : x - a < 2 ^ i := by omega
  have hlen : (sibT (leafF l) a i (x - a)).length = i := by rw [← sibR_eq _ _ _ _ hlt]; exact sibR_len _ _ _ _ _
  have hcl := climb_yes hok i a (x - a) hai hi20 hlt
  rw [show a + (x - a) = x from by omega] at hcl
  rw [← hp] at k1 k2 k3 k4 k5
  have hn : notesN (leafF l) x l.length = sibT (leafF l) a i (x - a) := by rw [t3, k8]
  have hxa : ((x : Int) - cntTo (ofP l l.length) k).toNat = x - a := by rw [k4]; omega
  have hwk : 0 ≤ wrkTo (ofP l l.length) k := by
    have : ∀ m, m ≤ (ofP l l.length).length → 0 ≤ wrkTo (ofP l l.length) m := by
      intro m
      induction m with
      | zero => intro _; exact Int.le_refl _
      | succ m ih =>
        intro hm
        have h3 := ih (by omega)
        have h4 := rangeOk_at hr m (by omega)
        rw [wrkTo]
        omega
    exact this k (by omega)
  rw [hn, check_some ⟨hok x hx, Int.natCast_nonneg _, by omega, hr, rfl⟩ (place_at k1 k2 k3), hxa, k5, if_neg (by omega)]
  omega
end Go.Proofs.YtkajpkfhedfmaaaGreatDoor

set_option linter.unusedVariables false
namespace Go.Proofs.YtkajpkfhedfmaaaGreatDoor
open Go.RowKit Go.Deep

theorem shp_down {f : Nat → PeakV} (hf : ∀ i, (f i).count = 1) : ∀ (t : List (Nat × Nat)) (e j : Nat), Shp e j t → (∀ i, 0 < i → i < (peaksT f t).length → ((peaksT f t).getD i default).count < ((peaksT f t).getD (i - 1) default).count) ∧ (0 < (peaksT f t).length → ((2 ^ j : Nat) : Int) ≤ ((peaksT f t).getD ((peaksT f t).length - 1) default).count)
  | [], _, _, _ => ⟨fun i _ h => absurd h (by simp [peaksT]), fun h => absurd h (by simp [peaksT])⟩
  | s :: r, e, j, h => by
    obtain ⟨h1, h2, h3⟩ := h
    obtain ⟨ih1, ih2⟩ := shp_down hf r _ _ h3
    have hl : (peaksT f (s :: r)).length = (peaksT f r).length + 1 := by rw [peaksT_cons, List.length_append]; rfl
    have e1 : (peaksT f (s :: r)).getD (peaksT f r).length default = treeT f s.1 s.2 := by
      rw [peaksT_cons, List.getD_eq_getElem?_getD, List.getElem?_append_right (Nat.le_refl _), Nat.sub_self]
      rfl
    have e2 : ∀ i, i < (peaksT f r).length → (peaksT f (s :: r)).getD i default = (peaksT f r).getD i default := fun i hi => by
      rw [peaksT_cons, List.getD_eq_getElem?_getD, List.getElem?_append_left hi, ← List.getD_eq_getElem?_getD]
    have hlt : ((2 ^ s.2 : Nat) : Int) < ((2 ^ (s.2 + 1) : Nat) : Int) := by exact_mod_cast Nat.pow_lt_pow_right (by decide) (Nat.lt_succ_self _)
    have hle : ((2 ^ j : Nat) : Int) ≤ ((2 ^ s.2 : Nat) : Int) := by exact_mod_cast Nat.pow_le_pow_right (by decide) h2
    refine ⟨fun i hi hil => ?_, fun _ => ?_⟩
    · by_cases hb : i < (peaksT f r).length
      · rw [e2 i hb, e2 (i - 1) (by omega)]
        exact ih1 i hi hb
      · have hb2 : i = (peaksT f r).length := by omega
        have h4 := ih2 (by omega)
        rw [hb2, e1, e2 _ (by omega), treeT_cnt hf]
        exact Int.lt_of_lt_of_le hlt h4
    · rw [hl, Nat.add_sub_cancel, e1, treeT_cnt hf]
      exact hle
theorem peaksT_two {f : Nat → PeakV} (hf : ∀ i, (f i).count = 1) (t : List (Nat × Nat)) : ∀ q ∈ peaksT f t, ∃ i : Nat, q.count = ((2 ^ i : Nat) : Int) := by
  intro q hq
  rw [peaksT, List.mem_reverse] at hq
  obtain ⟨s, _, rfl⟩ := List.mem_map.1 hq
  exact ⟨s.2, treeT_cnt hf _ _⟩
theorem two_yes {i : Nat} (h : ((2 ^ i : Nat) : Int) ≤ 20) : twoB ((2 ^ i : Nat) : Int) = true := by
  have h4 : i ≤ 4 := by
    refine Classical.byContradiction fun hn => ?_
    have h5 : 2 ^ 5 ≤ 2 ^ i := Nat.pow_le_pow_right (by decide) (by omega)
    have h6 : 2 ^ i ≤ 20 := by exact_mod_cast h
    omega
  have : i = 0 ∨ i = 1 ∨ i = 2 ∨ i = 3 ∨ i = 4 := by omega
  rcases this with rfl | rfl | rfl | rfl | rfl <;> decide
theorem ofP_rangeOk {l : List HeadV} (hok : ∀ i, i < l.length → headOkB (l.getD i default) = true) (hl : l.length ≤ 20) (m : Nat) (hm : m ≤ l.length) : rangeOkB (ofP l m) = true := by
  obtain ⟨h1, h2, h3⟩ := ofP_ok hok hl m hm
  obtain ⟨t, t1, t2, _⟩ := stk_shp (leafF_cnt l) 0 m
  have hp := stk_peaks t1
  have hd := (shp_down (leafF_cnt l) t m 0 t2).1
  rw [← hp] at hd
  rw [rangeOk_end, h2, decide_eq_true_eq]
  · omega
  · intro i hi
    have hmem : (ofP l m).getD i default ∈ ofP l m := by rw [List.getD_eq_getElem?_getD, List.getElem?_eq_getElem hi]; exact List.getElem_mem hi
    have hk := h1 _ hmem
    have hc := peakOk_in hk
    obtain ⟨j, hj⟩ := peaksT_two (leafF_cnt l) t _ (by rw [← hp]; exact hmem)
    have h2c : twoB ((ofP l m).getD i default).count = true := by rw [hj]; exact two_yes (by rw [← hj]; exact hc.2.1)
    rw [stepOk, hk, h2c, Bool.true_and, Bool.true_and, Bool.or_eq_true, decide_eq_true_eq, decide_eq_true_eq]
    by_cases h0 : i = 0
    · exact .inl h0
    · exact .inr (hd i (by omega) hi)
/-- What RangeProof tells of ok heads and a place among them passes RangeCheck. -/
theorem check_proofs {l : List HeadV} (hok : ∀ i, i < l.length → headOkB (l.getD i default) = true) (hl : l.length ≤ 20) (x : Nat) (hx : x < l.length) : 0 ≤ checkV ⟨(rangeRoot (ofP l l.length)).toArray⟩ (l.getD x default) (x : Int) (ofP l l.length) (notesN (leafF l) x l.length) :=
  check_proof hok hl x hx (ofP_rangeOk hok hl _ (Nat.le_refl _))
end Go.Proofs.YtkajpkfhedfmaaaGreatDoor

set_option linter.unusedVariables false
namespace Go.Proofs.YtkajpkfhedfmaaaGreatDoor
open Go.RowKit Go.Deep

theorem way_app (s : ByteArray) (l m : List SideV) : ∀ k, wayTo s (l ++ m) (l.length + k) = wayTo (wayTo s l l.length) m k
  | 0 => by
    have : ∀ j, j ≤ l.length → wayTo s (l ++ m) j = wayTo s l j := by
      intro j
      induction j with
      | zero => intro _; rfl
      | succ j ih =>
        intro hj
        rw [wayTo, wayTo, ih (by omega), List.getD_eq_getElem?_getD, List.getElem?_append_left (by omega), ← List.getD_eq_getElem?_getD]
    exact this l.length (Nat.le_refl _)
  | k + 1 => by
    rw [← Nat.add_assoc, wayTo, way_app s l m k, wayTo, List.getD_eq_getElem?_getD, List.getElem?_append_right (by omega), show l.length + k - l.length = k from by omega, ← List.getD_eq_getElem?_getD]
theorem upR_two : ∀ (r : List ByteArray) (k : Nat), 2 * k + 1 < r.length → (upR r).getD k ByteArray.empty = bothB (r.getD (2 * k) ByteArray.empty) (r.getD (2 * k + 1) ByteArray.empty)
  | [], k, h => absurd h (by simp)
  | [a], k, h => absurd h (by simp)
  | a :: b :: r, 0, _ => by simp [upR]
  | a :: b :: r, k + 1, h => by
    have ih := upR_two r k (by simp only [List.length_cons] at h; omega)
    rw [upR, List.getD_cons_succ, ih, show 2 * (k + 1) = 2 * k + 1 + 1 from by omega]
    simp only [List.getD_cons_succ]
theorem upR_last : ∀ (r : List ByteArray) (k : Nat), 2 * k + 1 = r.length → (upR r).getD k ByteArray.empty = r.getD (2 * k) ByteArray.empty
  | [], k, h => absurd h (by simp)
  | [a], k, h => by
    obtain rfl : k = 0 := by simp at h; omega
    simp [upR]
  | a :: b :: r, 0, h => absurd h (by simp)
  | a :: b :: r, k + 1, h => by
    have ih := upR_last r k (by simp only [List.length_cons] at h; omega)
    rw [upR, List.getD_cons_succ, ih, show 2 * (k + 1) = 2 * k + 1 + 1 from by omega]
    simp only [List.getD_cons_succ]
theorem side_up (r : List ByteArray) (x : Nat) (hx : x < r.length) : wayTo (r.getD x ByteArray.empty) (sideV r 0 x) (sideV r 0 x).length = (upR r).getD (x / 2) ByteArray.empty := by
  rw [sideV, Nat.mul_zero, if_pos (Nat.zero_le _), Nat.zero_add, Nat.sub_zero]
  by_cases hm : x % 2 = 1
  · have e1 : x + 1 - x % 2 * 2 = 2 * (x / 2) := by omega
    have e2 : x = 2 * (x / 2) + 1 := by omega
    rw [e1, if_pos (by omega), decide_eq_true (by omega), upR_two r (x / 2) (by omega), ← e2]
    rfl
  · have e1 : x + 1 - x % 2 * 2 = 2 * (x / 2) + 1 := by omega
    have e2 : x = 2 * (x / 2) := by omega
    rw [e1]
    by_cases hl : 2 * (x / 2) + 1 < r.length
    · rw [if_pos hl, decide_eq_false (by omega), upR_two r (x / 2) hl, ← e2]
      rfl
    · rw [if_neg hl, upR_last r (x / 2) (by omega), ← e2]
      rfl
theorem way_top : ∀ (f : Nat) (r : List ByteArray) (x : Nat), x < r.length → r.length ≤ f + 1 → wayTo (r.getD x ByteArray.empty) (sidesR f r x) (sidesR f r x).length = (topR f r).getD 0 ByteArray.empty
  | 0, r, x, hx, hr => by
    obtain rfl : x = 0 := by omega
    rfl
  | f + 1, r, x, hx, hr => by
    by_cases h1 : r.length ≤ 1
    · obtain rfl : x = 0 := by omega
      rw [sidesR, if_pos h1, topR, if_pos h1]
      rfl
    · rw [sidesR, if_neg h1, topR, if_neg h1, List.length_append, way_app, side_up r x hx]
      exact way_top f (upR r) (x / 2) (by rw [upR_length]; omega) (by rw [upR_length]; omega)
theorem sides_few : ∀ (k f : Nat) (r : List ByteArray) (x : Nat), r.length ≤ 2 ^ k → (sidesR f r x).length ≤ k
  | k, 0, r, x, _ => Nat.zero_le _
  | 0, f + 1, r, x, h => by
    rw [sidesR, if_pos (by simpa using h)]
    exact Nat.le_refl _
  | k + 1, f + 1, r, x, h => by
    have e1 : 2 ^ (k + 1) = 2 * 2 ^ k := Nat.pow_succ'
    have ih := sides_few k f (upR r) (x / 2) (by rw [upR_length]; omega)
    rw [sidesR]
    split
    · exact Nat.zero_le _
    · have hs : (sideV r 0 x).length ≤ 1 := by
        unfold sideV
        split
        · split <;> simp
        · simp
      rw [List.length_append]
      omega
theorem sides_sum : ∀ (f : Nat) (r : List ByteArray) (x : Nat), (∀ s ∈ r, isSum s.data.toList = true) → ∀ y ∈ sidesR f r x, sideOkB y = true
  | 0, r, x, _ => by intro y hy; cases hy
  | f + 1, r, x, h => by
    intro y hy
    rw [sidesR] at hy
    split at hy
    · cases hy
    · rcases List.mem_append.1 hy with hy | hy
      · unfold sideV at hy
        split at hy
        · split at hy
          · rename_i h1 h2
            obtain rfl := List.mem_singleton.1 hy
            refine h _ ?_
            have h3 : x + 1 - x % 2 * 2 - 2 * 0 < r.length := by omega
            rw [List.getD_eq_getElem?_getD, List.getElem?_eq_getElem h3]
            exact List.getElem_mem h3
          · cases hy
        · cases hy
      · exact sides_sum f (upR r) (x / 2) (upR_sum r h) y hy
end Go.Proofs.YtkajpkfhedfmaaaGreatDoor

set_option linter.unusedVariables false
namespace Go.Proofs.YtkajpkfhedfmaaaGreatDoor
open Go.RowKit Go.Deep

theorem rr_sum {ps : List PeakV} (h : rangeOkB ps = true) : isSum (⟨(rangeRoot ps).toArray⟩ : ByteArray).data.toList = true := by
  show isSum (rangeRoot ps).toArray.toList = true
  rw [List.toList_toArray, rr_yes h]
  exact isSum_sumB _
theorem root_proof {ss : List ByteArray} (hk : itemsOkB ss = true) (h : HeadV) (hr : h.root = rootL ss) (Y : Nat) (hY : Y < ss.length) : rootCheckB h.root (ss.getD Y ByteArray.empty) (sidesR ss.length (ss.map rootItemB) Y) = true := by
  have hl := itemsOk_len hk
  have hlen : (ss.map rootItemB).length = ss.length := List.length_map _
  have hi : isItem (ss.getD Y ByteArray.empty).data.toList = true := by
    rw [itemsOkB, Bool.and_eq_true, List.all_eq_true] at hk
    rw [List.getD_eq_getElem?_getD, List.getElem?_eq_getElem hY]
    exact hk.2 _ (List.getElem_mem hY)
  have hs : sidesOkB (sidesR ss.length (ss.map rootItemB) Y) = true := by
    refine sidesOk_yes (by have := sides_few 6 ss.length (ss.map rootItemB) Y (by rw [hlen]; omega); omega) fun i hi => ?_
    refine sides_sum ss.length (ss.map rootItemB) Y (fun s hs => ?_) _ ?_
    · obtain ⟨x, _, rfl⟩ := List.mem_map.1 hs
      exact bsum_sum _
    · rw [List.getD_eq_getElem?_getD, List.getElem?_eq_getElem hi]
      exact List.getElem_mem hi
  have hw := way_top ss.length (ss.map rootItemB) Y (by rw [hlen]; exact hY) (by rw [hlen]; omega)
  have e1 : (ss.map rootItemB).getD Y ByteArray.empty = rootItemB (ss.getD Y ByteArray.empty) := by
    simp [List.getD_eq_getElem?_getD, List.getElem?_eq_getElem hY]
  rw [e1] at hw
  have e2 : rootL ss = (topR ss.length (ss.map rootItemB)).getD 0 ByteArray.empty := by
    rw [rootL, if_neg (by intro h0; rw [h0] at hY; exact absurd hY (by simp)), rootR, hlen]
  rw [rootCheckB, hi, hs, hw, hr, e2, decide_eq_true rfl]
  rfl
theorem paid_ok {ps : List (HeadV × List ByteArray)} {X Y : Nat} (h : inPd ps (X : Int) (Y : Int)) :
    paidB ⟨(rangeRoot (ofP (ps.map (·.1)) ps.length)).toArray⟩ ((ps.getD X default).2.getD Y ByteArray.empty) (paidOfL ps (X : Int) (Y : Int)).h (X : Int) (paidOfL ps (X : Int) (Y : Int)).pk (paidOfL ps (X : Int) (Y : Int)).st (paidOfL ps (X : Int) (Y : Int)).sd = true := by
  obtain ⟨hhs, his⟩ := inPd_facts h
  rw [paidOfL_yes h]
  have hX : X < ps.length := by have := h.2.1.2; omega
  have hY : Y < (ps.getD X default).2.length := by
    have := h.2.2.2
    rw [Int.toNat_natCast] at this
    omega
  have hm : ps.getD X default ∈ ps := by rw [List.getD_eq_getElem?_getD, List.getElem?_eq_getElem hX]; exact List.getElem_mem hX
  have hlen : (ps.map (·.1)).length = ps.length := List.length_map _
  have hok := heads_at hhs
  have h20 := heads_len hhs
  have hc := check_proofs hok h20 X (by rw [hlen]; exact hX)
  have hd : (ps.map (·.1)).getD X default = (ps.getD X default).1 := by
    simp [List.getD_eq_getElem?_getD, List.getElem?_eq_getElem hX]
  rw [hlen, hd] at hc
  have hro := ofP_rangeOk hok h20 ps.length (by rw [hlen]; exact Nat.le_refl _)
  obtain ⟨h1, _, _⟩ := h
  rw [okP, Bool.and_eq_true, allOk, List.all_eq_true] at h1
  have h3 := h1.2 _ hm
  simp only [blockOkB, Bool.and_eq_true, decide_eq_true_eq] at h3
  show (paidStandsB _ _ _ _ _ && rootCheckB (ps.getD X default).1.root _ _) = true
  rw [root_proof (his _ hm) _ h3.2.2.2 Y hY, paidStandsB, rr_sum hro, h3.1, decide_eq_true hc]
  rfl
end Go.Proofs.YtkajpkfhedfmaaaGreatDoor

set_option linter.unusedVariables false
namespace Go.Proofs.YtkajpkfhedfmaaaGreatDoor
open Go.RowKit Go.Deep

/-- The places that were passed ahead of the i-th item of the x-th block. -/
def passed (it : ByteArray) (ps : List (HeadV × List ByteArray)) (x i : Nat) : List HitV := fdT it ps x ++ bhT (x : Int) it (ps.getD x default).2 i
theorem bh_pre (a : Int) (it : ByteArray) (ss : List ByteArray) (i : Nat) : ∀ d, ∃ r, bhT a it ss (i + d) = bhT a it ss i ++ r
  | 0 => ⟨[], by rw [List.append_nil]; rfl⟩
  | d + 1 => by
    obtain ⟨r, hr⟩ := bh_pre a it ss i d
    refine ⟨r ++ (if ss.getD (i + d) ByteArray.empty = it then [⟨a, it⟩] else []), ?_⟩
    show bhT a it ss (i + d) ++ _ = _
    rw [hr, List.append_assoc]
    rfl
theorem fd_pre (it : ByteArray) (ps : List (HeadV × List ByteArray)) (x : Nat) : ∀ d, ∃ r, fdT it ps (x + d) = fdT it ps x ++ r
  | 0 => ⟨[], by rw [List.append_nil]; rfl⟩
  | d + 1 => by
    obtain ⟨r, hr⟩ := fd_pre it ps x d
    refine ⟨r ++ bhT ((x + d : Nat) : Int) it (ps.getD (x + d) default).2 (ps.getD (x + d) default).2.length, ?_⟩
    show fdT it ps (x + d) ++ _ = _
    rw [hr, List.append_assoc]
    rfl
theorem passed_yes {it : ByteArray} {ps : List (HeadV × List ByteArray)} {x i : Nat} (h : (ps.getD x default).2.getD i ByteArray.empty = it) : passed it ps x (i + 1) = passed it ps x i ++ [⟨(x : Int), it⟩] := by
  rw [passed, bhT_yes h, passed, List.append_assoc]
theorem passed_no {it : ByteArray} {ps : List (HeadV × List ByteArray)} {x i : Nat} (h : ¬ (ps.getD x default).2.getD i ByteArray.empty = it) : passed it ps x (i + 1) = passed it ps x i := by
  rw [passed, bhT_no h, passed]
theorem passed_end {it : ByteArray} {ps : List (HeadV × List ByteArray)} {x : Nat} : passed it ps x (ps.getD x default).2.length = passed it ps (x + 1) 0 := by
  rw [passed, passed, bhT, List.append_nil]
  rfl
theorem passed_start (it : ByteArray) (ps : List (HeadV × List ByteArray)) : passed it ps 0 0 = [] := rfl
theorem passed_all {it : ByteArray} {ps : List (HeadV × List ByteArray)} (h : okP ps = true) : passed it ps ps.length 0 = findL it ps := by
  rw [passed, bhT, List.append_nil, findL, if_pos h]
/-- All that was passed stands at the beginning of the places, and the next one is the next. -/
theorem passed_pre {it : ByteArray} {ps : List (HeadV × List ByteArray)} (hok : okP ps = true) {x i : Nat} (hx : x < ps.length) (hi : i ≤ (ps.getD x default).2.length) : ∃ r, findL it ps = passed it ps x i ++ r := by
  obtain ⟨r1, h1⟩ := fd_pre it ps (x + 1) (ps.length - (x + 1))
  obtain ⟨r2, h2⟩ := bh_pre (x : Int) it (ps.getD x default).2 i ((ps.getD x default).2.length - i)
  rw [show x + 1 + (ps.length - (x + 1)) = ps.length from by omega] at h1
  rw [show i + ((ps.getD x default).2.length - i) = (ps.getD x default).2.length from by omega] at h2
  refine ⟨r2 ++ r1, ?_⟩
  rw [findL, if_pos hok, h1]
  show (fdT it ps x ++ bhT (x : Int) it (ps.getD x default).2 (ps.getD x default).2.length) ++ r1 = _
  rw [h2, passed, List.append_assoc, List.append_assoc, List.append_assoc]
theorem passed_at {it : ByteArray} {ps : List (HeadV × List ByteArray)} (hok : okP ps = true) {x i : Nat} (hx : x < ps.length) (hi : i < (ps.getD x default).2.length) (hit : (ps.getD x default).2.getD i ByteArray.empty = it) : (passed it ps x i).length < (findL it ps).length ∧ (findL it ps).getD (passed it ps x i).length default = ⟨(x : Int), it⟩ := by
  obtain ⟨r, hr⟩ := passed_pre (it := it) hok hx (Nat.succ_le_of_lt hi)
  rw [passed_yes hit, List.append_assoc] at hr
  rw [hr]
  refine ⟨by simp, ?_⟩
  rw [List.getD_eq_getElem?_getD, List.getElem?_append_right (Nat.le_refl _), Nat.sub_self]
  rfl

end Go.Proofs.YtkajpkfhedfmaaaGreatDoor

set_option linter.unusedVariables false
namespace Go.Proofs.YtkajpkfhedfmaaaGreatDoor
open Go.RowKit Go.Deep

/-- How many heads a range has behind a place. -/
def deepV (ps : List PeakV) (a : Int) : Int := if 0 ≤ a ∧ a < (rangeMany ps).1 then (rangeMany ps).1 - 1 - a else -1
theorem many_in (ps : List PeakV) : -1 ≤ (rangeMany ps).1 ∧ (rangeMany ps).1 ≤ 20 := by
  cases h : rangeOkB ps with
  | false => rw [many_no h]; exact ⟨by decide, by decide⟩
  | true =>
    rw [many_yes h]
    have h2 := h
    rw [rangeOkB, Bool.and_eq_true, decide_eq_true_eq] at h2
    refine ⟨?_, h2.2⟩
    have : ∀ k, k ≤ ps.length → 0 ≤ cntTo ps k := by
      intro k
      induction k with
      | zero => intro _; exact Int.le_refl _
      | succ k ih =>
        intro hk
        have h3 := ih (by omega)
        have h4 := rangeOk_at h k (by omega)
        rw [cntTo]
        omega
    have h5 := this ps.length (Nat.le_refl _)
    show (-1 : Int) ≤ cntTo ps ps.length
    omega

theorem CopyPaid.atP {B : Nat} {L : LPaid} {v : PaidV} {w : World} (h : CopyPaid B L v w) : AtP w v.s.g L.r.pl := h.r.p.at 3 pEnc_len
end Go.Proofs.YtkajpkfhedfmaaaGreatDoor

set_option linter.unusedVariables false
namespace Go.Proofs.YtkajpkfhedfmaaaGreatDoor
open Go.RowKit Go.Deep

theorem rangeOk_nil : rangeOkB [] = true := rfl
theorem implRangeOkNil (ps : List PeakV) (hps : ps = []) (w : World) : Calls Tryz.prog 23 #[.slice none 0 0] w fun e w' => e = .returned (.bool (rangeOkB ps)) ∧ Below w.heap.size w w' := by
  rw [hps, rangeOk_nil]
  clear hps
  go_enter Tryz.func23, Tryz.ntmps23
  go_wp2_with fail
  go_loopw [3, 8] (fun m i wr => m = .int .i64 0 ∧ i = .int .i64 0 ∧ Hid (wr = w)) (fun _ _ _ => 0)
  case atStart => exact ⟨rfl, rfl, rfl⟩
  case round =>
    obtain ⟨rfl, rfl, HW⟩ := hrel
    go_wp2_with fail
    go_ret
    exact ⟨rfl, by rw [HW.out]; exact Below.refl _ _⟩
end Go.Proofs.YtkajpkfhedfmaaaGreatDoor

set_option linter.unusedVariables false
namespace Go.Proofs.YtkajpkfhedfmaaaGreatDoor
open Go.RowKit Go.Deep

section
variable {P : Program} {w : World}
theorem run_append_nil (t ty e : TypeId) (i : TypeInfo) (ht : P.underlying t = some (.slice e)) (hi : P.info? e = some i) {base size n : Nat} {v : Value} {xs : List Value} (hown : w.ownsRow base e size v n xs) :
    (Builtin.append_ #[t, t] ty #[v, .slice none 0 0]).run P w = .ok v w := by
  rcases hown.2 with ⟨rfl, _⟩ | ⟨g, cap, cur, rfl, _, _, hc, _⟩
  · simp [Builtin.append_, run_underlying ht, sizeOf, typeInfo, hi, Builtin.lenOf, run_firstCells_none]
  · simp [Builtin.append_, run_underlying ht, sizeOf, typeInfo, hi, Builtin.lenOf, run_firstCells_none, hc, storeCells]
theorem wpList_append_nil {ops : Array Oper} {rest : List Oper} {o : Oper} {a : Act} {Q : Exit → Act → World → Prop} (hgd : o.guard = none) (s x : Operand) (t : TypeId)
    (ho : o.op = .call { callee := .builtin .append, args := #[s, x], argTypes := #[t, t] })
    (base : Nat) (e : TypeId) (i : TypeInfo) (size : Nat) (ht : P.underlying t = some (.slice e)) (hi : P.info? e = some i)
    (v : Value) (n : Nat) (xs : List Value) (hs : a.eval s = v) (hown : w.ownsRow base e size v n xs) (hx : a.eval x = .slice none 0 0)
    (h : wpList P ops Q rest (a.put o.dst v) w) : wpList P ops Q (o :: rest) a w := by
  have hr := run_append_nil (P := P) (w := w) t o.type e i ht hi hown
  refine wpList_plain hgd fun K hK => ?_
  unfold Oper.wp execOp
  simp only [ho, resolve, invoke, builtin, Sem.run_bind, Sem.run_pure, Result.andThen_ok, List.map_toArray, List.map_cons, List.map_nil, hs, hx, hr]
  exact hK _ _ h
end

theorem leaf_range {p : PeakV} (hk : peakOkB p = true) (h1 : p.count = 1) : rangeOkB [p] = true := by
  have h2 : twoB 1 = true := by decide
  simp [rangeOkB, stepOk, cntTo, hk, h2, h1, List.range_succ]

end Go.Proofs.YtkajpkfhedfmaaaGreatDoor

set_option linter.unusedVariables false
namespace Go.Proofs.YtkajpkfhedfmaaaGreatDoor
open Go.RowKit Go.Deep

def paidG (a : Int) (h : HeadV) (pa : Option Addr) (pn pc : Nat) (sa : Option Addr) (sn sc : Nat) (da : Option Addr) (dn dc : Nat) : Value := .agg #[.int .i64 a, .string h.prev, .string h.root, .int .i64 h.time, .int .i64 h.diff, .int .i64 h.nonce, .slice pa pn pc, .slice sa sn sc, .slice da dn dc]
def pheadG (a : Int) (h : HeadV) (pa : Option Addr) (pn pc : Nat) (sa : Option Addr) (sn sc : Nat) (da : Option Addr) (dn dc : Nat) : Value := .agg #[.int .i64 a, .string h.prev, .string h.root, .int .i64 h.time, .int .i64 h.diff, .int .i64 h.nonce, .slice pa pn pc, .slice sa sn sc]
theorem many_nil : rangeMany [] = (0, 0) := rfl
theorem runHeadPartG (a : Int) (h : HeadV) (pa : Option Addr) (pn pc : Nat) (sa : Option Addr) (sn sc : Nat) (da : Option Addr) (dn dc : Nat) (w : World) : (Instr.field 83 (.agg #[.int .i64 a, .string h.prev, .string h.root, .int .i64 h.time, .int .i64 h.diff, .int .i64 h.nonce, .slice pa pn pc, .slice sa sn sc, .slice da dn dc]) 0).run Tryz.prog w = .ok (.agg #[.int .i64 a, .string h.prev, .string h.root, .int .i64 h.time, .int .i64 h.diff, .int .i64 h.nonce, .slice pa pn pc, .slice sa sn sc]) w := by kernel_rfl
set_option maxHeartbeats 1000000 in
set_option maxRecDepth 100000 in
theorem implPaidOpenG (a : Int) (h : HeadV) (pa : Option Addr) (pn pc : Nat) (sa : Option Addr) (sn sc : Nat) (da : Option Addr) (dn dc : Nat) (w : World) :
    Calls Tryz.prog 32 #[paidG a h pa pn pc sa sn sc da dn dc] w fun e w' => e = .returned (paidG a h pa pn pc sa sn sc da dn dc) ∧ Below w.heap.size w w' := by
  unfold paidG
  go_enter Tryz.func32, Tryz.ntmps32
  go_wp2_with fail
  exact bodyPost_ret (results_cell_row (p := 2) rfl _ _ (w.heap.size + 1) 83 #[.int .i64 a, .string h.prev, .string h.root, .int .i64 h.time, .int .i64 h.diff, .int .i64 h.nonce, .slice pa pn pc, .slice sa sn sc, .slice da dn dc] (0, 0) _ rfl (at_new2 _ _ _) Tryz.underlying83 rfl (by kernel_rfl)) rfl ⟨rfl, ((Below.refl _ w).alloc (Nat.le_refl _) _).alloc (by simp) _⟩

end Go.Proofs.YtkajpkfhedfmaaaGreatDoor

set_option linter.unusedVariables false
namespace Go.Proofs.YtkajpkfhedfmaaaGreatDoor
open Go.RowKit Go.Deep

set_option maxHeartbeats 1000000 in
set_option maxRecDepth 100000 in
theorem implStepsOkNil (w : World) :
    Calls Tryz.prog 129 #[.slice none 0 0] w fun e w' => e = .returned (.bool (stepsB [])) ∧ Below w.heap.size w w' := by
  have hix : Calls Tryz.prog 167 #[.slice none 0 0, .func (.func 154) #[] #[]] w fun e w' => e = .returned (.int .i64 (-1)) ∧ Below w.heap.size w w' := by
    go_enter Tryz.func167, Tryz.ntmps167
    go_wp2_with fail
    go_loopw [8] (fun i wr => i = .int .i64 0 ∧ Hid (Below w.heap.size w wr)) (fun _ _ => 0)
    case atStart => exact ⟨rfl, Below.refl _ _⟩
    case round =>
      obtain ⟨rfl, HB⟩ := hrel
      go_wp2_with fail
      go_ret
      exact ⟨rfl, HB.out⟩
  have hcf : Calls Tryz.prog 153 #[.slice none 0 0, .func (.func 154) #[] #[]] w fun e w' => e = .returned (.bool false) ∧ Below w.heap.size w w' := by
    go_enter Tryz.func153, Tryz.ntmps153
    go_wp2_with fail
    refine hix.mono ?_
    rintro e w1 ⟨rfl, b1⟩
    go_wp2_with fail
    go_ret
    exact ⟨rfl, b1⟩
  clear hix
  go_enter Tryz.func129, Tryz.ntmps129
  go_wp2_with fail
  refine hcf.mono ?_
  rintro e w1 ⟨rfl, b1⟩
  go_wp2_with fail
  go_ret
  exact ⟨rfl, b1⟩

end Go.Proofs.YtkajpkfhedfmaaaGreatDoor

set_option linter.unusedVariables false
namespace Go.Proofs.YtkajpkfhedfmaaaGreatDoor
open Go.RowKit Go.Deep

/-- Steps that lie there, if there is one. -/
def StE (w : World) (sa : Option Addr) (n : Nat) (ps : List PeakV) : Prop := ∀ k, k < n → ∃ g, sa = some ⟨g, 0, none⟩ ∧ AtP w g ps
theorem StE.of {B : Nat} {w : World} {sa : Option Addr} {n c : Nat} {ps : List PeakV} (h : Pks B (.slice sa n c) ps w) : StE w sa n ps ∧ n = ps.length := by
  rcases h with ⟨hv, rfl⟩ | ⟨g, c2, hv, ha, _⟩
  · simp only [Value.slice.injEq] at hv
    exact ⟨fun k hk => absurd hk (by omega), hv.2.1⟩
  · simp only [Value.slice.injEq] at hv
    exact ⟨fun k hk => ⟨g, hv.1, ha⟩, hv.2.1⟩
theorem implStepsOkG {B : Nat} {sa : Option Addr} {n c : Nat} {ss : List PeakV} {w : World} (h : Pks B (.slice sa n c) ss w) (hm : n ≤ 1048576) :
    Calls Tryz.prog 129 #[.slice sa n c] w fun e w'' => e = .returned (.bool (stepsB ss)) ∧ Below w.heap.size w w'' := by
  have hn := (StE.of h).2
  rcases h with ⟨hv, rfl⟩ | ⟨g, c2, hv, ha, _⟩
  · rw [hv]
    exact implStepsOkNil w
  · rw [hv]
    exact implStepsOk g ss.length c2 ss w ha rfl (by omega)
/-- A proof whose steps may be nil. -/
structure PrfG (pg pn pc : Nat) (ps : List PeakV) (sa : Option Addr) (sn sc : Nat) (ss : List PeakV) (w : World) : Prop where
  p : AtP w pg ps
  pl : pn = ps.length
  pm : pn ≤ 1048576
  t : Pks 0 (.slice sa sn sc) ss w
  tl : sn = ss.length
  tm : sn ≤ 1048576
theorem PrfG.below {pg pn pc : Nat} {ps : List PeakV} {sa : Option Addr} {sn sc : Nat} {ss : List PeakV} {w w' : World} (h : PrfG pg pn pc ps sa sn sc ss w) (hb : Below w.heap.size w w') : PrfG pg pn pc ps sa sn sc ss w' :=
  ⟨h.p.below hb h.p.1, h.pl, h.pm, h.t.below hb, h.tl, h.tm⟩
set_option linter.unusedSimpArgs false in
set_option maxHeartbeats 8000000 in
set_option maxRecDepth 100000 in
theorem implRangeClimbG (top : PeakV) (h : HeadV) (a : Nat) (sa : Option Addr) (n cap : Nat) (ss : List PeakV) (w : World) (hok : headOkB h = true) (ha : a ≤ 20) (hA : StE w sa n ss) (hn : n = ss.length) (hm : n ≤ 8) (hss : ∀ i, i < ss.length → peakOkB (ss.getD i default) = true) (hK : RowG w shaK) (hP : TabP w) :
    Calls Tryz.prog 130 #[peakVal top, headVal h, .int .i64 (a : Int), .slice sa n cap] w fun e w' => e = .returned (.int .i64 (climbV top h a ss)) ∧ Below w.heap.size w w' := by
  have HA : Hid (StE w sa n ss) := hA
  have HN : Hid (n = ss.length) := hn
  have HSS : Hid (∀ i, i < ss.length → peakOkB (ss.getD i default) = true) := hss
  have HK : Hid (RowG w shaK) := hK
  have HP : Hid (TabP w) := hP
  have hph := fun w' (hb : Below w.heap.size w w') => implPeakHead h w' hok (HK.out.below hb HK.out.lt) (TabP.below HP.out hb (Nat.le_refl _))
  have HF0 : Hid (Fine (leafP h) 0 0) := fine_leaf hok
  have HBAD : Hid (walkTo (leafP h) a ss ss.length = none → climbV top h a ss = -1) := fun hw => climb_none hw
  have HGOO : Hid (∀ q l, walkTo (leafP h) a ss n = some (q, l) → climbV top h a ss = if samePB q top = true then l else -1) := fun q l hw => climb_some (by rw [← HN.out]; exact hw)
  have HW0 : Hid (walkTo (leafP h) a ss 0 = some (leafP h, 0)) := rfl
  generalize climbV top h a ss = R at HBAD HGOO ⊢
  have HS : Hid (∀ i q l, walkTo (leafP h) a ss i = some (q, l) → (peakOkB (ss.getD i default) && decide ((ss.getD i default).count = q.count)) = false → i < n → R = -1) := fun i q l h1 h2 h3 => HBAD.out (walk_bad h1 h2 (by rw [← HN.out]; exact h3))
  have HL : Hid (∀ i q l, walkTo (leafP h) a ss i = some (q, l) → (peakOkB (ss.getD i default) && decide ((ss.getD i default).count = q.count)) = true → a / 2 ^ i % 2 = 1 → walkTo (leafP h) a ss (i + 1) = some (bothP (ss.getD i default) q, l + (ss.getD i default).work)) := fun i q l h1 h2 h3 => walk_left h1 h2 h3
  have HR : Hid (∀ i q l, walkTo (leafP h) a ss i = some (q, l) → (peakOkB (ss.getD i default) && decide ((ss.getD i default).count = q.count)) = true → ¬ a / 2 ^ i % 2 = 1 → walkTo (leafP h) a ss (i + 1) = some (bothP q (ss.getD i default), l)) := fun i q l h1 h2 h3 => walk_right h1 h2 h3
  clear hok hA hn hss hK hP HBAD
  unfold headVal at hph ⊢
  unfold peakVal at hph ⊢
  generalize leafP h = lf at hph HF0 HGOO HW0 HS HL HR
  have A0 : Hid (CBk ((w.alloc (.cells #[.string top.sum, .int .i64 top.work, .int .i64 top.count] 67)).alloc (.cells #[.string h.prev, .string h.root, .int .i64 h.time, .int .i64 h.diff, .int .i64 h.nonce] 36)) w.heap.size 67 #[.string top.sum, .int .i64 top.work, .int .i64 top.count]) := (CBk.new w _ _).alloc _
  have L0 : Hid (Below w.heap.size w ((w.alloc (.cells #[.string top.sum, .int .i64 top.work, .int .i64 top.count] 67)).alloc (.cells #[.string h.prev, .string h.root, .int .i64 h.time, .int .i64 h.diff, .int .i64 h.nonce] 36))) := ((Below.refl _ w).alloc (Nat.le_refl _) _).alloc (by simp) _
  go_enter Tryz.func130, Tryz.ntmps130
  go_wp2_with fail
  refine (hph _ L0.out).mono ?_
  rintro e w1 ⟨rfl, b1⟩
  obtain ⟨g0, hg0⟩ : ∃ g0, g0 = w.heap.size := ⟨_, rfl⟩
  obtain ⟨g9, hg9⟩ : ∃ g9, g9 = w1.heap.size := ⟨_, rfl⟩
  have L1 : Hid (Below w.heap.size w w1) := L0.out.trans (b1.mono L0.out.size)
  have A1 : Hid (CBk w1 w.heap.size 67 #[.string top.sum, .int .i64 top.work, .int .i64 top.count]) := A0.out.call b1
  have CW : Hid (ClimbW w (w1.alloc (.cells #[.string lf.sum, .int .i64 lf.work, .int .i64 lf.count] 67)) g0 g9 top lf) := by
    refine ⟨by rw [hg0]; exact A1.out.alloc _, by rw [hg9]; exact CBk.new w1 _ _, ?_, by omega, L1.out.alloc L1.out.size _⟩
    have := A1.out.lt
    omega
  clear A0 L0 b1 hph L1 A1
  rw [← hg0]
  clear hg0
  go_wp2_with fail
  generalize w1.alloc (.cells #[.string lf.sum, .int .i64 lf.work, .int .i64 lf.count] 67) = W1 at CW ⊢
  rw [← hg9]
  clear hg9
  clear w1
  go_loopw [10, 17] (fun l i wr => ∃ (k : Nat) (q : PeakV) (lv : Int), k ≤ n ∧ i = .int .i64 (k : Int) ∧ l = .int .i64 lv ∧ Hid (ClimbW w wr g0 g9 top q) ∧ Hid (walkTo lf a ss k = some (q, lv)) ∧ Hid (Fine q lv k)) (fun _ i _ => n - (intOf i).toNat)
  case atStart => exact ⟨0, lf, 0, by omega, rfl, rfl, CW, HW0, HF0⟩
  case round =>
    clear CW HF0 HW0
    obtain ⟨k, q, lv, hk, rfl, rfl, CR, HWk, HFk⟩ := hrel
    by_cases hlt : k < n
    · have hkl : k < ss.length := by rw [← HN.out]; exact hlt
      obtain ⟨gs, hsa, hat⟩ := HA.out k hlt
      subst hsa
      have HAr : Hid (AtP wr gs ss) := hat.below CR.out.b hat.1
      have q0 := AtP.c0 HAr.out k hkl
      have q1 := AtP.c1 HAr.out k hkl
      have q2 := AtP.c2 HAr.out k hkl
      have lk : (k : Int) < (n : Int) := by omega
      have lk0 : (0 : Int) ≤ (k : Int) := by omega
      have wk : IntKind.i64.wrap ((k : Int) + 1) = (k : Int) + 1 := by rw [IntKind.wrap_i64]; omega
      have HK1 : Hid (k + 1 ≤ n) := hlt
      have HX1 : Hid ((peakOkB (ss.getD k default) && decide ((ss.getD k default).count = q.count)) = false → R = -1) := fun hf => HS.out k q lv HWk.out hf hlt
      have HX2 := HL.out k q lv HWk.out
      have HX3 := HR.out k q lv HWk.out
      have HX2 : Hid _ := HX2
      have HX3 : Hid _ := HX3
      have hso := HSS.out k hkl
      clear HWk hkl HAr
      generalize ss.getD k default = s at q0 q1 q2 HX1 HX2 HX3 hso
      have CS : Hid (CBk (wr.alloc (.cells #[.string s.sum, .int .i64 s.work, .int .i64 s.count] 67)) wr.heap.size 67 #[.string s.sum, .int .i64 s.work, .int .i64 s.count]) := CBk.new wr _ _
      have CA : Hid (ClimbW w (wr.alloc (.cells #[.string s.sum, .int .i64 s.work, .int .i64 s.count] 67)) g0 g9 top q) := CR.out.call ((Below.refl _ wr).alloc (Nat.le_refl _) _)
      obtain ⟨gs, hgs⟩ : ∃ gs, gs = wr.heap.size := ⟨_, rfl⟩
      have HG9 : Hid (g9 < gs) := by show _ < _; rw [hgs]; exact CR.out.p.lt
      rw [← hgs] at CS
      obtain ⟨d0, d1, d2⟩ := CA.out.p.cells3
      go_wp2_with fail
      clear d0 d1 d2
      generalize wr.alloc (.cells #[.string s.sum, .int .i64 s.work, .int .i64 s.count] 67) = wa at CS CA ⊢
      rw [← hgs]
      clear hgs q0 q1 q2 CR
      have hal := implPeakAlike s q wa
      unfold peakVal at hal
      by_cases hcq : s.count = q.count
      · have hb1 : (peakOkB s && decide (s.count = q.count)) = true := by rw [hso, decide_eq_true hcq]; rfl
        have hcb : (s.count == q.count) = true := by simpa using hcq
        rw [hcb] at hal
        have hfl := fine_lt HFk.out hb1
        have hfi := peakOk_in hfl.1
        have hqi := peakOk_in hfl.2.2.1
        have HX2 := HX2.out hb1
        have HX3 := HX3.out hb1
        have hbit : (bits .and .i64 (a : Int) ((2 ^ k : Nat) : Int) != 0) = decide (a / 2 ^ k % 2 = 1) := bit_half ⟨a, by omega⟩ ⟨k, by have := hfl.2.2.2; omega⟩
        rw [← HFk.out.cnt] at hbit
        have hw3 : IntKind.i64.wrap (lv + s.work) = lv + s.work := by
          have h1 := HFk.out.l0
          have h2 := HFk.out.l1
          rw [IntKind.wrap_i64]; omega
        have hpb1 := fun w' (hb : Below w.heap.size w w') => implPeakBoth s q w' hfl.1 hfl.2.2.1 (HK.out.below hb HK.out.lt) (TabP.below HP.out hb (Nat.le_refl _))
        have hpb2 := fun w' (hb : Below w.heap.size w w') => implPeakBoth q s w' hfl.2.2.1 hfl.1 (HK.out.below hb HK.out.lt) (TabP.below HP.out hb (Nat.le_refl _))
        have HF1 : Hid (Fine (bothP s q) (lv + s.work) (k + 1)) := fine_left HFk.out hb1
        have HF2 : Hid (Fine (bothP q s) lv (k + 1)) := fine_right HFk.out hb1
        unfold peakVal at hpb1 hpb2
        clear HX1 HS hso hcq hcb hb1 hfl hfi hqi
        refine hal.mono ?_
        rintro e w3 ⟨rfl, b3⟩
        have CS3 : Hid (CBk w3 gs 67 #[.string s.sum, .int .i64 s.work, .int .i64 s.count]) := CS.out.call b3
        have CA3 : Hid (ClimbW w w3 g0 g9 top q) := CA.out.call b3
        clear CS CA b3 hal
        obtain ⟨c0, c1, c2⟩ := CS3.out.cells3
        obtain ⟨d0, d1, d2⟩ := CA3.out.p.cells3
        obtain ⟨r, hr⟩ : ∃ r, r = bits .and .i64 (a : Int) q.count := ⟨_, rfl⟩
        rw [← hr] at hbit
        replace hr := hr.symm
        by_cases hbv : a / 2 ^ k % 2 = 1
        · rw [decide_eq_true hbv] at hbit
          have hr0 : ¬ r = 0 := by simpa using hbit
          have HXW : Hid (walkTo lf a ss (k + 1) = some (bothP s q, lv + s.work)) := HX2 hbv
          have hp1 := hpb1 _ CA3.out.b
          clear hpb1 hpb2 HX2 HX3 HF2 hbv HFk
          go_wp2_with fail
          refine hp1.mono ?_
          rintro e w4 ⟨rfl, b4⟩
          have CA4 : Hid (ClimbW w w4 g0 g9 top q) := CA3.out.call b4
          clear CS3 CA3 b4 hp1 c0 c1 c2 d0 d1 d2 hr
          obtain ⟨d0, d1, d2⟩ := CA4.out.p.cells3
          obtain ⟨f0, f1, f2⟩ := CA4.out.p.free3
          have CA5 : Hid _ := CA4.out.store (bothP s q)
          generalize bothP s q = nq at CA5 HF1 HXW
          clear CA4
          go_wp2_with fail
          go_roundw
          case rel => exact ⟨k + 1, nq, lv + s.work, HK1.out, by go_num, rfl, CA5, HXW, HF1⟩
          case measure => have := HK1.out; simp [intOf]; omega
        · rw [decide_eq_false hbv] at hbit
          have hr0 : r = 0 := by simpa using hbit
          have HXW : Hid (walkTo lf a ss (k + 1) = some (bothP q s, lv)) := HX3 hbv
          have hp2 := hpb2 _ CA3.out.b
          clear hpb1 hpb2 HX2 HX3 HF1 hbv HFk hw3
          go_wp2_with fail
          refine hp2.mono ?_
          rintro e w4 ⟨rfl, b4⟩
          have CA4 : Hid (ClimbW w w4 g0 g9 top q) := CA3.out.call b4
          clear CS3 CA3 b4 hp2 c0 c1 c2 d0 d1 d2 hr
          obtain ⟨d0, d1, d2⟩ := CA4.out.p.cells3
          obtain ⟨f0, f1, f2⟩ := CA4.out.p.free3
          have CA5 : Hid _ := CA4.out.store (bothP q s)
          generalize bothP q s = nq at CA5 HF2 HXW
          clear CA4
          go_wp2_with fail
          go_roundw
          case rel => exact ⟨k + 1, nq, lv, HK1.out, by go_num, rfl, CA5, HXW, HF2⟩
          case measure => have := HK1.out; simp [intOf]; omega
      · have HV : Hid (R = -1) := HX1.out (by rw [hso, decide_eq_false hcq]; rfl)
        have hcb : (s.count == q.count) = false := by simpa using hcq
        rw [hcb] at hal
        clear HX1 HX2 HX3 HS HL HR HGOO hso hcq hcb
        refine hal.mono ?_
        rintro e w3 ⟨rfl, b3⟩
        have CA3 : Hid (ClimbW w w3 g0 g9 top q) := CA.out.call b3
        clear CS CA b3 hal
        go_wp2_with fail
        go_ret
        exact ⟨by rw [HV.out]; rfl, CA3.out.b⟩
    · obtain rfl : k = n := by omega
      have HV : Hid (R = if samePB q top = true then lv else -1) := HGOO.out q lv HWk.out
      obtain ⟨d0, d1, d2⟩ := CR.out.p.cells3
      obtain ⟨t0, t1, t2⟩ := CR.out.t.cells3
      have hse := runSamePk q top
      have hgd := eqPkG
      generalize samePB q top = sm at hse HV
      clear HS HL HR HGOO HWk HFk
      cases sm with
      | true =>
        go_wp2_with fail
        go_ret
        exact ⟨by rw [HV.out]; rfl, CR.out.b⟩
      | false =>
        go_wp2_with fail
        go_ret
        exact ⟨by rw [HV.out]; rfl, CR.out.b⟩

set_option linter.unusedSimpArgs false in
set_option maxHeartbeats 8000000 in
set_option maxRecDepth 100000 in
theorem implRangeCheckG (root : ByteArray) (h : HeadV) (a : Int) (pg pn pc : Nat) (ps : List PeakV) (sa : Option Addr) (sn sc : Nat) (ss : List PeakV) (w : World) (ham : a ≤ 9223372036854775807) (hS : PrfG pg pn pc ps sa sn sc ss w) (hK : RowG w shaK) (hP : TabP w) :
    Calls Tryz.prog 103 #[.string root, headVal h, .int .i64 a, .agg #[.slice (some ⟨pg, 0, none⟩) pn pc, .slice sa sn sc]] w fun e w' => e = .returned (.int .i64 (checkV root h a ps ss)) ∧ Below w.heap.size w w' := by
  have HS : Hid (PrfG pg pn pc ps sa sn sc ss w) := hS
  have HK : Hid (RowG w shaK) := hK
  have HP : Hid (TabP w) := hP
  have HN : Hid (pn = ps.length ∧ sn = ss.length) := ⟨hS.pl, hS.tl⟩
  have hpm := hS.pm
  have htm := hS.tm
  have hho := fun w' => implHeadOk h w'
  have hst := fun (w' : World) (hb : Below w.heap.size w w') => implStepsOkG (HS.out.below hb).t hS.tm
  have hro := fun (w' : World) (hb : Below w.heap.size w w') => implRangeOk pg pn pc ps w' (HS.out.below hb).p hS.pl (by omega)
  have hrr := fun (w' : World) (hb : Below w.heap.size w w') => implRangeRoot pg pn pc ps w' (HS.out.below hb).p hS.pl hS.pm (HK.out.below hb HK.out.lt) (TabP.below HP.out hb (Nat.le_refl _))
  have HNO : Hid (¬ (headOkB h = true ∧ 0 ≤ a ∧ ss.length ≤ 8 ∧ rangeOkB ps = true ∧ (⟨(rangeRoot ps).toArray⟩ : ByteArray) = root) → checkV root h a ps ss = -1) := fun hn => check_no hn
  have HST : Hid (stepsB ss = false → checkV root h a ps ss = -1) := fun hf => check_steps hf
  have HPN : Hid (placeP ps a = none → checkV root h a ps ss = -1) := fun hp => check_none hp
  have HPS : Hid (∀ k, headOkB h = true → 0 ≤ a → ss.length ≤ 8 → rangeOkB ps = true → (⟨(rangeRoot ps).toArray⟩ : ByteArray) = root → placeP ps a = some k → checkV root h a ps ss = if climbV (ps.getD k default) h (a - cntTo ps k).toNat ss < 0 then -1 else wrkTo ps k + climbV (ps.getD k default) h (a - cntTo ps k).toNat ss) := fun k h1 h2 h3 h4 h5 h6 => check_some ⟨h1, h2, h3, h4, h5⟩ h6
  have HCL : Hid (∀ (k a' : Nat) (w' : World), headOkB h = true → a' ≤ 20 → stepsB ss = true → Below w.heap.size w w' → Calls Tryz.prog 130 #[.agg #[.string (ps.getD k default).sum, .int .i64 (ps.getD k default).work, .int .i64 (ps.getD k default).count], .agg #[.string h.prev, .string h.root, .int .i64 h.time, .int .i64 h.diff, .int .i64 h.nonce], .int .i64 (a' : Int), .slice sa sn sc] w' fun e w'' => e = .returned (.int .i64 (climbV (ps.getD k default) h a' ss)) ∧ Below w'.heap.size w' w'') := fun k a' w' h1 h2 h3 hb => implRangeClimbG (ps.getD k default) h a' sa sn sc ss w' h1 h2 (StE.of (HS.out.below hb).t).1 HN.out.2 (by have := HN.out.2; have := steps_len h3; omega) (fun i hi => steps_at h3 i hi) (HK.out.below hb HK.out.lt) (TabP.below HP.out hb (Nat.le_refl _))
  have HCE : Hid (∀ k a', headOkB h = true → -1 ≤ climbV (ps.getD k default) h a' ss ∧ climbV (ps.getD k default) h a' ss ≤ 256) := fun k a' h1 => climb_le h1 a' ss
  generalize checkV root h a ps ss = R at HNO HST HPN HPS ⊢
  clear hS hK hP
  unfold headVal
  have A0 : Hid (CBk ((w.alloc (.cells #[.string h.prev, .string h.root, .int .i64 h.time, .int .i64 h.diff, .int .i64 h.nonce] 36)).alloc (.cells #[.slice (some ⟨pg, 0, none⟩) pn pc, .slice sa sn sc] 44)) w.heap.size 36 #[.string h.prev, .string h.root, .int .i64 h.time, .int .i64 h.diff, .int .i64 h.nonce]) := (CBk.new w _ _).alloc _
  have B0 : Hid (CBk ((w.alloc (.cells #[.string h.prev, .string h.root, .int .i64 h.time, .int .i64 h.diff, .int .i64 h.nonce] 36)).alloc (.cells #[.slice (some ⟨pg, 0, none⟩) pn pc, .slice sa sn sc] 44)) (w.heap.size + 1) 44 #[.slice (some ⟨pg, 0, none⟩) pn pc, .slice sa sn sc]) := by
    have := CBk.new (w.alloc (.cells #[.string h.prev, .string h.root, .int .i64 h.time, .int .i64 h.diff, .int .i64 h.nonce] 36)) 44 #[.slice (some ⟨pg, 0, none⟩) pn pc, .slice sa sn sc]
    rwa [show (w.alloc (.cells #[.string h.prev, .string h.root, .int .i64 h.time, .int .i64 h.diff, .int .i64 h.nonce] 36)).heap.size = w.heap.size + 1 from by simp] at this
  have L0 : Hid (Below w.heap.size w ((w.alloc (.cells #[.string h.prev, .string h.root, .int .i64 h.time, .int .i64 h.diff, .int .i64 h.nonce] 36)).alloc (.cells #[.slice (some ⟨pg, 0, none⟩) pn pc, .slice sa sn sc] 44))) := ((Below.refl _ w).alloc (Nat.le_refl _) _).alloc (by simp) _
  go_enter Tryz.func103, Tryz.ntmps103
  go_wp2_with fail
  generalize (w.alloc (.cells #[.string h.prev, .string h.root, .int .i64 h.time, .int .i64 h.diff, .int .i64 h.nonce] 36)).alloc (.cells #[.slice (some ⟨pg, 0, none⟩) pn pc, .slice sa sn sc] 44) = W0 at A0 B0 L0 ⊢
  obtain ⟨g0, hg0⟩ : ∃ g0, g0 = w.heap.size := ⟨_, rfl⟩
  rw [← hg0] at A0 B0 ⊢
  clear hg0
  have h0 := hho W0
  clear hho
  cases hok : headOkB h with
  | false =>
    have HV : Hid (R = -1) := HNO.out (by rw [hok]; intro hh; exact absurd hh.1 (by decide))
    rw [hok] at h0
    clear HNO HST HPN HPS HCL HCE hro hrr hst hok
    refine h0.mono ?_
    rintro e w1 ⟨rfl, b1⟩
    go_wp2_with fail
    go_ret
    exact ⟨by rw [HV.out]; rfl, L0.out.trans (b1.mono L0.out.size)⟩
  | true =>
  have HOK : Hid (headOkB h = true) := hok
  rw [hok] at h0
  clear hok
  refine h0.mono ?_
  rintro e w1 ⟨rfl, b1⟩
  have A1 : Hid (CBk w1 g0 36 #[.string h.prev, .string h.root, .int .i64 h.time, .int .i64 h.diff, .int .i64 h.nonce]) := A0.out.call b1
  have B1 : Hid (CBk w1 (g0 + 1) 44 #[.slice (some ⟨pg, 0, none⟩) pn pc, .slice sa sn sc]) := B0.out.call b1
  have L1 : Hid (Below w.heap.size w w1) := L0.out.trans (b1.mono L0.out.size)
  clear A0 B0 L0 b1 h0
  obtain ⟨p0, p1⟩ := B1.out.out2
  by_cases ha0 : a < 0
  · have HV : Hid (R = -1) := HNO.out (fun hh => absurd hh.2.1 (by omega))
    clear HNO HST HPN HPS HCL HCE hro hrr hst
    go_wp2_with fail
    go_ret
    exact ⟨by rw [HV.out]; rfl, L1.out⟩
  have hs0 := hst _ L1.out
  clear hst
  cases hsk : stepsB ss with
  | false =>
    have HV : Hid (R = -1) := HST.out hsk
    rw [hsk] at hs0
    clear HNO HST HPN HPS HCL HCE hro hrr hsk
    go_wp2_with fail
    refine hs0.mono ?_
    rintro e w2 ⟨rfl, b2⟩
    go_wp2_with fail
    go_ret
    exact ⟨by rw [HV.out]; rfl, L1.out.trans (b2.mono L1.out.size)⟩
  | true =>
  have H8S : Hid (stepsB ss = true) := hsk
  have H8 : Hid (ss.length ≤ 8) := steps_len hsk
  rw [hsk] at hs0
  clear hsk HST
  have HA0 : Hid (0 ≤ a) := by show _ ≤ _; omega
  go_wp2_with fail
  refine hs0.mono ?_
  rintro e w1a ⟨rfl, b1a⟩
  have A1a : Hid (CBk w1a g0 36 #[.string h.prev, .string h.root, .int .i64 h.time, .int .i64 h.diff, .int .i64 h.nonce]) := A1.out.call b1a
  have B1a : Hid (CBk w1a (g0 + 1) 44 #[.slice (some ⟨pg, 0, none⟩) pn pc, .slice sa sn sc]) := B1.out.call b1a
  have L1a : Hid (Below w.heap.size w w1a) := L1.out.trans (b1a.mono L1.out.size)
  clear A1 B1 L1 b1a hs0 p0 p1
  have A1 := A1a
  have B1 := B1a
  have L1 := L1a
  clear A1a B1a L1a
  obtain ⟨p0, p1⟩ := B1.out.out2
  have h0 := hro _ L1.out
  clear hro
  cases hrk : rangeOkB ps with
  | false =>
    have HV : Hid (R = -1) := HNO.out (fun hh => by have h1 := hh.2.2.2.1; rw [hrk] at h1; cases h1)
    rw [hrk] at h0
    clear HNO HPN HPS HCL HCE hrr hrk
    go_wp2_with fail
    refine h0.mono ?_
    rintro e w2 ⟨rfl, b2⟩
    go_wp2_with fail
    go_ret
    exact ⟨by rw [HV.out]; rfl, L1.out.trans (b2.mono L1.out.size)⟩
  | true =>
  have HRK : Hid (rangeOkB ps = true) := hrk
  rw [hrk] at h0
  clear hrk
  go_wp2_with fail
  refine h0.mono ?_
  rintro e w2 ⟨rfl, b2⟩
  have A2 : Hid (CBk w2 g0 36 #[.string h.prev, .string h.root, .int .i64 h.time, .int .i64 h.diff, .int .i64 h.nonce]) := A1.out.call b2
  have B2 : Hid (CBk w2 (g0 + 1) 44 #[.slice (some ⟨pg, 0, none⟩) pn pc, .slice sa sn sc]) := B1.out.call b2
  have L2 : Hid (Below w.heap.size w w2) := L1.out.trans (b2.mono L1.out.size)
  clear A1 B1 L1 b2 h0 p0 p1
  obtain ⟨p0, p1⟩ := B2.out.out2
  have h0 := hrr _ L2.out
  clear hrr
  go_wp2_with fail
  refine h0.mono ?_
  rintro e w3 ⟨rfl, b3⟩
  have A3 : Hid (CBk w3 g0 36 #[.string h.prev, .string h.root, .int .i64 h.time, .int .i64 h.diff, .int .i64 h.nonce]) := A2.out.call b3
  have B3 : Hid (CBk w3 (g0 + 1) 44 #[.slice (some ⟨pg, 0, none⟩) pn pc, .slice sa sn sc]) := B2.out.call b3
  have L3 : Hid (Below w.heap.size w w3) := L2.out.trans (b3.mono L2.out.size)
  clear A2 B2 L2 b3 h0 p0 p1
  by_cases hrt : ¬ (⟨(rangeRoot ps).toArray⟩ : ByteArray) = root
  · have HV : Hid (R = -1) := HNO.out (fun hh => hrt hh.2.2.2.2)
    have hrt1 : ((⟨(rangeRoot ps).toArray⟩ : ByteArray).toList == root.toList) = false := by rw [sameR, decide_eq_false hrt]
    generalize (⟨(rangeRoot ps).toArray⟩ : ByteArray) = rt at hrt1 ⊢
    clear HNO HPN HPS HCL HCE hrt
    go_wp2_with fail
    go_ret
    exact ⟨by rw [HV.out]; rfl, L3.out⟩
  replace hrt := Classical.not_not.1 hrt
  have HRT : Hid ((⟨(rangeRoot ps).toArray⟩ : ByteArray) = root) := hrt
  have hrt1 : ((⟨(rangeRoot ps).toArray⟩ : ByteArray).toList == root.toList) = true := by rw [sameR, decide_eq_true hrt]
  have HPS2 : Hid (∀ k, placeP ps a = some k → R = if climbV (ps.getD k default) h (a - cntTo ps k).toNat ss < 0 then -1 else wrkTo ps k + climbV (ps.getD k default) h (a - cntTo ps k).toNat ss) := fun k hp => HPS.out k HOK.out HA0.out H8.out HRK.out HRT.out hp
  generalize (⟨(rangeRoot ps).toArray⟩ : ByteArray) = rt at hrt1 ⊢
  clear HNO HPS hrt HRT
  obtain ⟨p0, p1⟩ := B3.out.out2
  go_wp2_with fail
  clear p0 p1 hrt1 ha0
  go_loopw [2, 9, 42] (fun av ah i wr => ∃ (k : Nat), k ≤ pn ∧ i = .int .i64 (k : Int) ∧ av = .int .i64 (a - cntTo ps k) ∧ ah = .int .i64 (wrkTo ps k) ∧ Hid (CBk wr g0 36 #[.string h.prev, .string h.root, .int .i64 h.time, .int .i64 h.diff, .int .i64 h.nonce]) ∧ Hid (CBk wr (g0 + 1) 44 #[.slice (some ⟨pg, 0, none⟩) pn pc, .slice sa sn sc]) ∧ Hid (Below w.heap.size w wr) ∧ Hid (cntTo ps k ≤ a ∧ ∀ j, j < k → ¬ a < cntTo ps (j + 1))) (fun _ _ i _ => pn - (intOf i).toNat)
  case atStart => exact ⟨0, by omega, rfl, by show Value.int .i64 a = Value.int .i64 (a - 0); rw [Int.sub_zero], rfl, A3, B3, L3, ⟨HA0.out, fun j hj => by omega⟩⟩
  case round =>
    clear A3 B3 L3
    obtain ⟨k, hk, rfl, rfl, rfl, AR, BR, LR, HQ⟩ := hrel
    by_cases hlt : k < pn
    · have hkl : k < ps.length := by rw [← HN.out.1]; exact hlt
      have HAr : Hid (AtP wr pg ps) := (HS.out.below LR.out).p
      have q0 := AtP.c0 HAr.out k hkl
      have q1 := AtP.c1 HAr.out k hkl
      have q2 := AtP.c2 HAr.out k hkl
      have lk : (k : Int) < (pn : Int) := by omega
      have lk0 : (0 : Int) ≤ (k : Int) := by omega
      have wk : IntKind.i64.wrap ((k : Int) + 1) = (k : Int) + 1 := by rw [IntKind.wrap_i64]; omega
      have HK1 : Hid (k + 1 ≤ pn) := hlt
      have hri := rangeOk_at HRK.out k hkl
      have hci := cnt_in HRK.out k (by omega)
      have hwi := wrk_in HRK.out k (by omega)
      have hl20 := range_len HRK.out
      have hcq := HQ.out.1
      have hce := HCE.out k (a - cntTo ps k).toNat HOK.out
      have hcl := HCL.out k (a - cntTo ps k).toNat
      have HPL : Hid (a < cntTo ps (k + 1) → R = if climbV (ps.getD k default) h (a - cntTo ps k).toNat ss < 0 then -1 else wrkTo ps k + climbV (ps.getD k default) h (a - cntTo ps k).toNat ss) := fun hh => HPS2.out k (place_at hkl hh HQ.out.2)
      have HC1 : Hid (cntTo ps (k + 1) = cntTo ps k + (ps.getD k default).count) := rfl
      have HW1 : Hid (wrkTo ps (k + 1) = wrkTo ps k + (ps.getD k default).work) := rfl
      have HQ2 : Hid (¬ a < cntTo ps (k + 1) → ∀ j, j < k + 1 → ¬ a < cntTo ps (j + 1)) := by
        intro hh j hj
        rcases Nat.lt_or_ge j k with h' | h'
        · exact HQ.out.2 j h'
        · obtain rfl : j = k := by omega
          exact hh
      clear HQ hkl HAr
      generalize climbV (ps.getD k default) h (a - cntTo ps k).toNat ss = cv at hce hcl HPL
      generalize ps.getD k default = p at q0 q1 q2 hri hcl HC1 HW1
      generalize cntTo ps k = ck at hci hcq hcl HC1 HPL ⊢
      generalize wrkTo ps k = wv at hwi HW1 HPL ⊢
      have CS : Hid (CBk (wr.alloc (.cells #[.string p.sum, .int .i64 p.work, .int .i64 p.count] 67)) wr.heap.size 67 #[.string p.sum, .int .i64 p.work, .int .i64 p.count]) := CBk.new wr _ _
      have LA : Hid (Below wr.heap.size wr (wr.alloc (.cells #[.string p.sum, .int .i64 p.work, .int .i64 p.count] 67))) := (Below.refl _ wr).alloc (Nat.le_refl _) _
      obtain ⟨gs, hgs⟩ : ∃ gs, gs = wr.heap.size := ⟨_, rfl⟩
      rw [← hgs] at CS
      by_cases hin : a - ck < p.count
      · have HV : Hid (R = if cv < 0 then -1 else wv + cv) := HPL.out (by rw [HC1.out]; omega)
        obtain ⟨a', ha'⟩ : ∃ a' : Nat, a - ck = (a' : Int) := ⟨(a - ck).toNat, by omega⟩
        rw [ha'] at hin hcl ⊢
        rw [Int.toNat_natCast] at hcl
        have hw3 : IntKind.i64.wrap (wv + cv) = wv + cv := by rw [IntKind.wrap_i64]; omega
        have HA' : Hid (a' ≤ 20) := by show _ ≤ _; omega
        clear HPL HQ2 HPS2 HPN HC1 HW1 ha' hcq hci
        have A1 : Hid (CBk (wr.alloc (.cells #[.string p.sum, .int .i64 p.work, .int .i64 p.count] 67)) g0 36 #[.string h.prev, .string h.root, .int .i64 h.time, .int .i64 h.diff, .int .i64 h.nonce]) := AR.out.call LA.out
        have B1 : Hid (CBk (wr.alloc (.cells #[.string p.sum, .int .i64 p.work, .int .i64 p.count] 67)) (g0 + 1) 44 #[.slice (some ⟨pg, 0, none⟩) pn pc, .slice sa sn sc]) := BR.out.call LA.out
        have L1 : Hid (Below w.heap.size w (wr.alloc (.cells #[.string p.sum, .int .i64 p.work, .int .i64 p.count] 67))) := LR.out.trans (LA.out.mono LR.out.size)
        obtain ⟨e0, e1, e2, e3, e4⟩ := A1.out.cells5
        obtain ⟨p0, p1⟩ := B1.out.out2
        go_wp2_with fail
        generalize wr.alloc (.cells #[.string p.sum, .int .i64 p.work, .int .i64 p.count] 67) = wa at CS LA A1 B1 L1 ⊢
        clear e0 e1 e2 e3 e4 p0 p1 AR BR LR LA q0 q1 q2
        have hc1 := hcl wa HOK.out HA'.out H8S.out L1.out
        clear hcl
        refine hc1.mono ?_
        rintro e w4 ⟨rfl, b4⟩
        have L4 : Hid (Below w.heap.size w w4) := L1.out.trans (b4.mono L1.out.size)
        by_cases hcv : cv < 0
        · have HV2 : Hid (R = -1) := by show _ = _; rw [HV.out, if_pos hcv]
          clear HV
          go_wp2_with fail
          go_ret
          exact ⟨by rw [HV2.out]; rfl, L4.out⟩
        · have HV2 : Hid (R = wv + cv) := by show _ = _; rw [HV.out, if_neg hcv]
          clear HV
          go_wp2_with fail
          go_ret
          exact ⟨by rw [HV2.out]; rfl, L4.out⟩
      · have HQ3 : Hid (∀ j, j < k + 1 → ¬ a < cntTo ps (j + 1)) := HQ2.out (by rw [HC1.out]; omega)
        have hw1 : IntKind.i64.wrap (a - ck - p.count) = a - ck - p.count := by rw [IntKind.wrap_i64]; omega
        have hw2 : IntKind.i64.wrap (wv + p.work) = wv + p.work := by rw [IntKind.wrap_i64]; omega
        have HCC : Hid (ck + p.count ≤ a) := by show _ ≤ _; omega
        clear HPL HQ2 hcl hce hri hci hwi hcq
        go_wp2_with fail
        generalize wr.alloc (.cells #[.string p.sum, .int .i64 p.work, .int .i64 p.count] 67) = wa at CS LA ⊢
        have A1 : Hid (CBk wa g0 36 #[.string h.prev, .string h.root, .int .i64 h.time, .int .i64 h.diff, .int .i64 h.nonce]) := AR.out.call LA.out
        have B1 : Hid (CBk wa (g0 + 1) 44 #[.slice (some ⟨pg, 0, none⟩) pn pc, .slice sa sn sc]) := BR.out.call LA.out
        have L1 : Hid (Below w.heap.size w wa) := LR.out.trans (LA.out.mono LR.out.size)
        clear AR BR LR LA q0 q1 q2 hgs
        go_roundw
        case rel => exact ⟨k + 1, HK1.out, by go_num, by rw [HC1.out]; show Value.int .i64 _ = Value.int .i64 _; congr 1; omega, by rw [HW1.out], A1, B1, L1, ⟨by rw [HC1.out]; exact HCC.out, HQ3.out⟩⟩
        case measure => have := HK1.out; simp [intOf]; omega
    · obtain rfl : k = pn := by omega
      have HV : Hid (R = -1) := HPN.out (place_no (fun j hj => HQ.out.2 j (by rw [HN.out.1]; exact hj)))
      clear HPN HPS2 HQ HCL HCE
      go_wp2_with fail
      go_ret
      exact ⟨by rw [HV.out]; rfl, LR.out⟩

end Go.Proofs.YtkajpkfhedfmaaaGreatDoor

set_option linter.unusedVariables false
namespace Go.Proofs.YtkajpkfhedfmaaaGreatDoor
open Go.RowKit Go.Deep

/-- Sides that lie there, if there is one. -/
def SdE (w : World) (sa : Option Addr) (n : Nat) (ps : List SideV) : Prop := ∀ k, k < n → ∃ g, sa = some ⟨g, 0, none⟩ ∧ AtSide w g ps
theorem SdE.below {w w' : World} {sa : Option Addr} {n : Nat} {ps : List SideV} (h : SdE w sa n ps) (hb : Below w.heap.size w w') : SdE w' sa n ps := fun k hk => by
  obtain ⟨g, h1, h2⟩ := h k hk
  exact ⟨g, h1, h2.below hb h2.1⟩
set_option maxHeartbeats 1000000 in
set_option maxRecDepth 100000 in
theorem implSidesOkG (sa : Option Addr) (n cap : Nat) (ps : List SideV) (w : World) (h : SdE w sa n ps) (hn : n = ps.length) (hm : n ≤ 1073741824) :
    Calls Tryz.prog 105 #[.slice sa n cap] w fun e w' => e = .returned (.bool (sidesOkB ps)) ∧ Below w.heap.size w w' := by
  have HA : Hid (SdE w sa n ps) := h
  have HN : Hid (n = ps.length) := hn
  clear h hn
  by_cases hl : (8 : Int) < (n : Int)
  · have HNO : Hid (sidesOkB ps = false) := sidesOk_long (by rw [← HN.out]; omega)
    go_enter Tryz.func105, Tryz.ntmps105
    go_wp2_with fail
    go_ret
    exact ⟨by rw [HNO.out]; rfl, Below.refl _ _⟩
  go_enter Tryz.func105, Tryz.ntmps105
  go_wp2_with fail
  go_loopw [10] (fun i wr => ∃ k : Nat, k ≤ n ∧ i = .int .i64 (k : Int) ∧ Hid (∀ q, q < k → sideOkB (ps.getD q default) = true) ∧ Hid (Below w.heap.size w wr)) (fun i _ => n - (intOf i).toNat)
  case atStart => exact ⟨0, by omega, rfl, fun q hq => by omega, Below.refl _ _⟩
  case round =>
    obtain ⟨k, hk, rfl, HS, HB⟩ := hrel
    by_cases hlt : k < n
    · have hkl : k < ps.length := by rw [← HN.out]; exact hlt
      obtain ⟨gs, hsa, hat⟩ := HA.out k hlt
      subst hsa
      have HAr : Hid (AtSide wr gs ps) := hat.below HB.out hat.1
      have c0 := AtSide.c0 HAr.out k hkl
      have c1 := AtSide.c1 HAr.out k hkl
      have lk : (k : Int) < (n : Int) := by omega
      have HK : Hid (k + 1 ≤ n) := hlt
      have HNO : Hid (sideOkB (ps.getD k default) = false → sidesOkB ps = false) := fun h => sidesOk_no k hkl h
      have HNX : Hid (sideOkB (ps.getD k default) = true → ∀ q, q < k + 1 → sideOkB (ps.getD q default) = true) := by
        intro h q hq
        rcases Nat.lt_or_ge q k with h' | h'
        · exact HS.out q h'
        · obtain rfl : q = k := by omega
          exact h
      unfold sideOkB at HNO HNX
      generalize ps.getD k default = p at c0 c1 HNO HNX
      have hb : ∀ o, Below w.heap.size w (wr.alloc o) := fun o => HB.out.alloc HB.out.size o
      clear hkl
      cases hok : isSum p.sum.data.toList with
      | false =>
        have HN2 : Hid (sidesOkB ps = false) := HNO.out hok
        clear HNO HNX
        go_wp2_with (go_at_call 90; refine (implSumOk _ _).mono ?_; rintro e w1 ⟨rfl, rfl⟩)
        go_ret
        exact ⟨by rw [HN2.out]; rfl, hb _⟩
      | true =>
        have HN2 : Hid (∀ q, q < k + 1 → sideOkB (ps.getD q default) = true) := HNX.out hok
        clear HNO HNX
        go_wp2_with (go_at_call 90; refine (implSumOk _ _).mono ?_; rintro e w1 ⟨rfl, rfl⟩)
        go_roundw
        case rel => exact ⟨k + 1, HK.out, by go_num, HN2, hb _⟩
        case measure => have := HK.out; simp [intOf]; omega
    · have HN2 : Hid (sidesOkB ps = true) := sidesOk_yes (by rw [← HN.out]; omega) (fun i hi => HS.out i (by rw [← HN.out] at hi; omega))
      go_wp2_with fail
      go_ret
      exact ⟨by rw [HN2.out]; rfl, HB.out⟩

set_option maxHeartbeats 1000000 in
set_option maxRecDepth 100000 in
theorem implRootWayG (sa : Option Addr) (n cap : Nat) (w : World) :
    Calls Tryz.prog 106 #[.slice sa n cap] w fun e w' => e = .returned (.func (.func 131) #[] #[.pointer (some ⟨w.heap.size, 0, none⟩)]) ∧ w' = w.alloc (.cells #[.slice sa n cap] 45) := by
  go_enter Tryz.func106, Tryz.ntmps106
  go_wp2_with fail
  go_ret
  exact ⟨rfl, rfl⟩

set_option maxHeartbeats 1000000 in
set_option maxRecDepth 100000 in
theorem implWayG (x : Nat) (sa : Option Addr) (n cap : Nat) (r0 : ByteArray) (ps : List SideV) (w : World) (h : SdE w sa n ps) (hx : w.cell? ⟨x, 0, none⟩ = some (.slice sa n cap)) (hn : n = ps.length) (hm : n ≤ 8) (hr : r0.size = 16) (hs : ∀ i, i < ps.length → (ps.getD i default).sum.size = 16) (hK : RowG w shaK) :
    Calls Tryz.prog 131 #[.string r0, .pointer (some ⟨x, 0, none⟩)] w fun e w' => e = .returned (.string (wayTo r0 ps ps.length)) ∧ Below w.heap.size w w' := by
  have HA : Hid (SdE w sa n ps) := h
  have HN : Hid (n = ps.length) := hn
  have HK : Hid (RowG w shaK) := hK
  have HS : Hid (∀ i, i < ps.length → (ps.getD i default).sum.size = 16) := hs
  have HR : Hid (r0.size = 16) := hr
  rw [← hn]
  clear h hn hs hr hK
  go_enter Tryz.func131, Tryz.ntmps131
  go_wp2_with fail
  clear hx
  go_loopw [0, 8] (fun s i wr => ∃ (k : Nat) (t : ByteArray), k ≤ n ∧ i = .int .i64 (k : Int) ∧ s = .string t ∧ t.size = 16 ∧ Hid (t = wayTo r0 ps k) ∧ Hid (Below w.heap.size w wr)) (fun _ i _ => n - (intOf i).toNat)
  case atStart => exact ⟨0, r0, by omega, rfl, rfl, HR.out, rfl, Below.refl _ _⟩
  case round =>
    obtain ⟨k, t, hk, rfl, rfl, ht, HT, HB⟩ := hrel
    by_cases hlt : k < n
    · have hkl : k < ps.length := by rw [← HN.out]; exact hlt
      obtain ⟨gs, hsa, hat⟩ := HA.out k hlt
      subst hsa
      have HAr : Hid (AtSide wr gs ps) := hat.below HB.out hat.1
      have c0 := AtSide.c0 HAr.out k hkl
      have c1 := AtSide.c1 HAr.out k hkl
      have hp16 := HS.out k hkl
      have lk : (k : Int) < (n : Int) := by omega
      have HK1 : Hid (k + 1 ≤ n) := hlt
      have HT2 : Hid (wayTo r0 ps (k + 1) = stepS t (ps.getD k default)) := by show _ = _; rw [HT.out]; rfl
      have HKr : Hid (∀ o, RowG (wr.alloc o) shaK) := fun o => HK.out.below (HB.out.alloc HB.out.size o) HK.out.lt
      generalize ps.getD k default = p at c0 c1 hp16 HT2
      obtain ⟨ps1, left⟩ := p
      dsimp only at c0 c1 hp16
      unfold stepS at HT2
      dsimp only at HT2
      clear hkl HT
      cases left with
      | true =>
        have hbt := fun w' hk => implRootBoth ps1 t w' hp16 ht hk
        have HT3 : Hid (bothB ps1 t = wayTo r0 ps (k + 1)) := by show _ = _; rw [HT2.out]; rfl
        have ht2 : (bothB ps1 t).size = 16 := bsum_size _
        clear HT2
        generalize bothB ps1 t = t2 at hbt HT3 ht2
        go_wp2_with fail
        refine (hbt _ (HKr.out _)).mono ?_
        rintro e w1 ⟨rfl, b1⟩
        have HB2 : Hid (Below w.heap.size w w1) := (HB.out.alloc HB.out.size _).trans (b1.mono (HB.out.alloc HB.out.size _).size)
        clear hbt b1 c0 c1 HKr HAr HB hat
        go_wp2_with fail
        go_roundw
        case rel => exact ⟨k + 1, t2, HK1.out, by go_num, rfl, ht2, HT3, HB2⟩
        case measure => have := HK1.out; simp [intOf]; omega
      | false =>
        have hbt := fun w' hk => implRootBoth t ps1 w' ht hp16 hk
        have HT3 : Hid (bothB t ps1 = wayTo r0 ps (k + 1)) := by show _ = _; rw [HT2.out]; rfl
        have ht2 : (bothB t ps1).size = 16 := bsum_size _
        clear HT2
        generalize bothB t ps1 = t2 at hbt HT3 ht2
        go_wp2_with fail
        refine (hbt _ (HKr.out _)).mono ?_
        rintro e w1 ⟨rfl, b1⟩
        have HB2 : Hid (Below w.heap.size w w1) := (HB.out.alloc HB.out.size _).trans (b1.mono (HB.out.alloc HB.out.size _).size)
        clear hbt b1 c0 c1 HKr HAr HB hat
        go_wp2_with fail
        go_roundw
        case rel => exact ⟨k + 1, t2, HK1.out, by go_num, rfl, ht2, HT3, HB2⟩
        case measure => have := HK1.out; simp [intOf]; omega
    · obtain rfl : k = n := by omega
      go_wp2_with fail
      go_ret
      exact ⟨by rw [← HT.out]; rfl, HB.out⟩

set_option maxHeartbeats 1000000 in
set_option maxRecDepth 100000 in
theorem implRootCheckG (sa : Option Addr) (n cap : Nat) (root item : ByteArray) (ps : List SideV) (w : World) (h : SdE w sa n ps) (hn : n = ps.length) (hm : n ≤ 1073741824) (hK : RowG w shaK) :
    Calls Tryz.prog 65 #[.string root, .string item, .slice sa n cap] w fun e w' => e = .returned (.bool (rootCheckB root item ps)) ∧ Below w.heap.size w w' := by
  have HA : Hid (SdE w sa n ps) := h
  have HN : Hid (n = ps.length) := hn
  have HK : Hid (RowG w shaK) := hK
  have hit := implItemOk item w
  have hso := fun w' h' => implSidesOkG sa n cap ps w' h' hn hm
  clear h hn hK
  cases hi : isItem item.data.toList with
  | false =>
    have HR : Hid (rootCheckB root item ps = false) := by show _ = _; rw [rootCheckB, hi, Bool.false_and]
    rw [hi] at hit
    go_enter Tryz.func65, Tryz.ntmps65
    go_wp2_with fail
    refine hit.mono ?_
    rintro e w1 ⟨rfl, rfl⟩
    go_wp2_with fail
    go_ret
    exact ⟨by rw [HR.out]; rfl, Below.refl _ _⟩
  | true =>
    cases hs : sidesOkB ps with
    | false =>
      have HR : Hid (rootCheckB root item ps = false) := by show _ = _; rw [rootCheckB, hs, Bool.false_and, Bool.and_false]
      rw [hi] at hit
      rw [hs] at hso
      go_enter Tryz.func65, Tryz.ntmps65
      go_wp2_with fail
      refine hit.mono ?_
      rintro e w1 ⟨rfl, rfl⟩
      go_wp2_with fail
      refine (hso _ HA.out).mono ?_
      rintro e w2 ⟨rfl, b2⟩
      go_wp2_with fail
      go_ret
      exact ⟨by rw [HR.out]; rfl, b2⟩
    | true =>
      rw [hi] at hit
      rw [hs] at hso
      obtain ⟨h8, hall⟩ := sidesOk_at hs
      have HS : Hid (∀ i, i < ps.length → (ps.getD i default).sum.size = 16) := fun i hi => sum_size (hall i hi)
      have hn8 : n ≤ 8 := by rw [HN.out]; exact h8
      have hiz := (isItem_size hi).2
      have hri := fun w' hk => implRootItem item w' (by omega) hk
      have hri16 : (rootItemB item).size = 16 := bsum_size _
      have HR : Hid (rootCheckB root item ps = decide (wayTo (rootItemB item) ps ps.length = root)) := by show _ = _; rw [rootCheckB, hi, hs]; rfl
      generalize rootItemB item = r0 at hri hri16 HR
      have HWY : Hid (∀ (x : Nat) w', SdE w' sa n ps → w'.cell? ⟨x, 0, none⟩ = some (.slice sa n cap) → RowG w' shaK → Calls Tryz.prog 131 #[.string r0, .pointer (some ⟨x, 0, none⟩)] w' fun e w'' => e = .returned (.string (wayTo r0 ps ps.length)) ∧ Below w'.heap.size w' w'') := fun x w' h1 h2 h3 => implWayG x sa n cap r0 ps w' h1 h2 HN.out hn8 hri16 HS.out h3
      generalize wayTo r0 ps ps.length = T at HR HWY
      clear hall hi hs
      go_enter Tryz.func65, Tryz.ntmps65
      go_wp2_with fail
      refine hit.mono ?_
      rintro e w1 ⟨rfl, rfl⟩
      go_wp2_with fail
      refine (hso _ HA.out).mono ?_
      rintro e w2 ⟨rfl, b2⟩
      go_wp2_with fail
      refine (implRootWayG sa n cap w2).mono ?_
      rintro e w3 ⟨rfl, h3⟩
      have b3 : Below w.heap.size w w3 := by rw [h3]; exact b2.alloc b2.size _
      have X3 : w3.heap[w2.heap.size]? = some (.cells #[.slice sa n cap] 45 (0, 0)) := by rw [h3]; exact heap_alloc_new w2 _
      have l3 : w2.heap.size < w3.heap.size := by rw [h3]; simp
      clear h3
      have HX3 : Hid (w3.heap[w2.heap.size]? = some (.cells #[.slice sa n cap] 45 (0, 0))) := X3
      clear X3
      go_wp2_with fail
      refine (hri _ (HK.out.below b3 HK.out.lt)).mono ?_
      rintro e w4 ⟨rfl, b4⟩
      have b5 : Below w.heap.size w w4 := b3.trans (b4.mono b3.size)
      have X4 : w4.cell? ⟨w2.heap.size, 0, none⟩ = some (.slice sa n cap) := by
        rw [b4.cell (p := ⟨w2.heap.size, 0, none⟩) l3, Lib.cell_of_heap HX3.out]
        rfl
      have hwy := HWY.out w2.heap.size w4 (HA.out.below b5) X4 (HK.out.below b5 HK.out.lt)
      clear X4
      go_wp2_with fail
      refine hwy.mono ?_
      rintro e w6 ⟨rfl, b6⟩
      go_wp2_with fail
      go_ret
      refine ⟨?_, b5.trans (b6.mono b5.size)⟩
      rw [HR.out]
      show Ending.returned (Value.bool (T.toList == root.toList)) = _
      rw [sameB]

end Go.Proofs.YtkajpkfhedfmaaaGreatDoor

set_option linter.unusedVariables false
namespace Go.Proofs.YtkajpkfhedfmaaaGreatDoor
open Go.RowKit Go.Deep

set_option maxHeartbeats 4000000 in
set_option maxRecDepth 100000 in
theorem implStandsG (a : Int) (h : HeadV) (pg pn pc : Nat) (ps : List PeakV) (sa : Option Addr) (sn sc : Nat) (ss : List PeakV) (da : Option Addr) (dn dc : Nat) (root : ByteArray) (w : World) (ham : a ≤ 9223372036854775807) (hS : PrfG pg pn pc ps sa sn sc ss w) (hK : RowG w shaK) (hP : TabP w) :
    Calls Tryz.prog 64 #[pheadG a h (some ⟨pg, 0, none⟩) pn pc sa sn sc da dn dc, .string root] w fun e w' => e = .returned (.bool (paidStandsB root h a ps ss)) ∧ Below w.heap.size w w' := by
  have L0 : Hid (Below w.heap.size w (w.alloc (.cells #[.int .i64 a, .string h.prev, .string h.root, .int .i64 h.time, .int .i64 h.diff, .int .i64 h.nonce, .slice (some ⟨pg, 0, none⟩) pn pc, .slice sa sn sc] 81))) := (Below.refl _ w).alloc (Nat.le_refl _) _
  have C0 : Hid (CBk (w.alloc (.cells #[.int .i64 a, .string h.prev, .string h.root, .int .i64 h.time, .int .i64 h.diff, .int .i64 h.nonce, .slice (some ⟨pg, 0, none⟩) pn pc, .slice sa sn sc] 81)) w.heap.size 81 #[.int .i64 a, .string h.prev, .string h.root, .int .i64 h.time, .int .i64 h.diff, .int .i64 h.nonce, .slice (some ⟨pg, 0, none⟩) pn pc, .slice sa sn sc]) := CBk.new w _ _
  have hso := fun w' => implSumOk root w'
  have HHM : Hid (∀ (w' : World), Below w.heap.size w w' → Calls Tryz.prog 49 #[headVal h] w' fun e w'' => e = .returned (.bool (headMeets h)) ∧ Below w'.heap.size w' w'') := fun w' hb => implHeadMeets h w' (hK.below hb hK.lt) (TabP.below hP hb (Nat.le_refl _))
  have HRC : Hid (∀ (w' : World), Below w.heap.size w w' → Calls Tryz.prog 103 #[.string root, headVal h, .int .i64 a, .agg #[.slice (some ⟨pg, 0, none⟩) pn pc, .slice sa sn sc]] w' fun e w'' => e = .returned (.int .i64 (checkV root h a ps ss)) ∧ Below w'.heap.size w' w'') := fun w' hb => implRangeCheckG root h a pg pn pc ps sa sn sc ss w' ham (hS.below hb) (hK.below hb hK.lt) (TabP.below hP hb (Nat.le_refl _))
  unfold paidStandsB
  generalize isSum root.data.toList = q1 at hso ⊢
  generalize headMeets h = q2 at HHM ⊢
  generalize checkV root h a ps ss = x at HRC ⊢
  clear ham hS hK hP
  unfold headVal at HHM HRC
  unfold pheadG
  go_enter Tryz.func64, Tryz.ntmps64
  go_wp2_with fail
  refine (hso _).mono ?_
  rintro e w1 ⟨rfl, rfl⟩
  cases q1 with
  | false =>
    clear HHM HRC hso
    go_wp2_with fail
    go_ret
    exact ⟨rfl, L0.out⟩
  | true =>
  have hhm := HHM.out _ L0.out
  clear HHM hso
  go_wp2_with fail
  refine hhm.mono ?_
  rintro e w2 ⟨rfl, b2⟩
  have L2 : Hid (Below w.heap.size w w2) := L0.out.trans (b2.mono L0.out.size)
  have C2 : Hid (CBk w2 w.heap.size 81 #[.int .i64 a, .string h.prev, .string h.root, .int .i64 h.time, .int .i64 h.diff, .int .i64 h.nonce, .slice (some ⟨pg, 0, none⟩) pn pc, .slice sa sn sc]) := C0.out.call b2
  clear L0 C0 b2 hhm
  cases q2 with
  | false =>
    clear HRC
    go_wp2_with fail
    go_ret
    exact ⟨rfl, L2.out⟩
  | true =>
  have hrc := HRC.out _ L2.out
  clear HRC
  obtain ⟨c0, c1, c2, c3, c4, c5, c6, c7⟩ := C2.out.eightC
  go_wp2_with fail
  refine hrc.mono ?_
  rintro e w3 ⟨rfl, b3⟩
  have L3 : Hid (Below w.heap.size w w3) := L2.out.trans (b3.mono L2.out.size)
  clear hrc b3 L2 C2 c0 c1 c2 c3 c4 c5 c6 c7
  go_wp2_with fail
  go_ret
  exact ⟨by simp, L3.out⟩

set_option maxHeartbeats 4000000 in
set_option maxRecDepth 100000 in
theorem implPaidHasG (a : Int) (h : HeadV) (pg pn pc : Nat) (ps : List PeakV) (sa : Option Addr) (sn sc : Nat) (ss : List PeakV) (da : Option Addr) (dn dc : Nat) (ds : List SideV) (root item : ByteArray) (w : World) (ham : a ≤ 9223372036854775807) (hS : PrfG pg pn pc ps sa sn sc ss w) (hd : SdE w da dn ds) (hn : dn = ds.length) (hm : dn ≤ 1073741824) (hK : RowG w shaK) (hP : TabP w) :
    Calls Tryz.prog 33 #[paidG a h (some ⟨pg, 0, none⟩) pn pc sa sn sc da dn dc, .string root, .string item] w fun e w' => e = .returned (.bool (paidB root item h a ps ss ds)) ∧ Below w.heap.size w w' := by
  have L0 : Hid (Below w.heap.size w (w.alloc (.cells #[.int .i64 a, .string h.prev, .string h.root, .int .i64 h.time, .int .i64 h.diff, .int .i64 h.nonce, .slice (some ⟨pg, 0, none⟩) pn pc, .slice sa sn sc, .slice da dn dc] 83))) := (Below.refl _ w).alloc (Nat.le_refl _) _
  have C0 : Hid (CBk (w.alloc (.cells #[.int .i64 a, .string h.prev, .string h.root, .int .i64 h.time, .int .i64 h.diff, .int .i64 h.nonce, .slice (some ⟨pg, 0, none⟩) pn pc, .slice sa sn sc, .slice da dn dc] 83)) w.heap.size 83 #[.int .i64 a, .string h.prev, .string h.root, .int .i64 h.time, .int .i64 h.diff, .int .i64 h.nonce, .slice (some ⟨pg, 0, none⟩) pn pc, .slice sa sn sc, .slice da dn dc]) := CBk.new w _ _
  have hst := implStandsG a h pg pn pc ps sa sn sc ss da dn dc root _ ham (hS.below L0.out) (hK.below L0.out hK.lt) (TabP.below hP L0.out (Nat.le_refl _))
  have HRC : Hid (∀ (w' : World), Below w.heap.size w w' → Calls Tryz.prog 65 #[.string h.root, .string item, .slice da dn dc] w' fun e w'' => e = .returned (.bool (rootCheckB h.root item ds)) ∧ Below w'.heap.size w' w'') := fun w' hb => implRootCheckG da dn dc h.root item ds w' (hd.below hb) hn hm (hK.below hb hK.lt)
  unfold paidB
  generalize paidStandsB root h a ps ss = q1 at hst ⊢
  generalize rootCheckB h.root item ds = q2 at HRC ⊢
  clear ham hS hd hn hm hK hP
  unfold pheadG at hst
  unfold paidG
  go_enter Tryz.func33, Tryz.ntmps33
  go_wp2_with fail
  refine hst.mono ?_
  rintro e w1 ⟨rfl, b1⟩
  have L1 : Hid (Below w.heap.size w w1) := L0.out.trans (b1.mono L0.out.size)
  have C1 : Hid (CBk w1 w.heap.size 83 #[.int .i64 a, .string h.prev, .string h.root, .int .i64 h.time, .int .i64 h.diff, .int .i64 h.nonce, .slice (some ⟨pg, 0, none⟩) pn pc, .slice sa sn sc, .slice da dn dc]) := C0.out.call b1
  clear L0 C0 b1 hst
  obtain ⟨c0, c1, c2, c3, c4, c5, c6, c7, c8⟩ := C1.out.nineC
  cases q1 with
  | false =>
    clear HRC
    go_wp2_with fail
    go_ret
    exact ⟨rfl, L1.out⟩
  | true =>
  have hrc := HRC.out _ L1.out
  clear HRC
  go_wp2_with fail
  refine hrc.mono ?_
  rintro e w2 ⟨rfl, b2⟩
  go_wp2_with fail
  go_ret
  exact ⟨by cases q2 <;> rfl, L1.out.trans (b2.mono L1.out.size)⟩

set_option maxHeartbeats 1000000 in
set_option maxRecDepth 100000 in
theorem implPaidCheckG (a : Int) (h : HeadV) (pg pn pc : Nat) (ps : List PeakV) (sa : Option Addr) (sn sc : Nat) (ss : List PeakV) (da : Option Addr) (dn dc : Nat) (ds : List SideV) (root item : ByteArray) (w : World) (ham : a ≤ 9223372036854775807) (hS : PrfG pg pn pc ps sa sn sc ss w) (hd : SdE w da dn ds) (hn : dn = ds.length) (hm : dn ≤ 1073741824) (hK : RowG w shaK) (hP : TabP w) :
    Calls Tryz.prog 12 #[.string root, .string item, paidG a h (some ⟨pg, 0, none⟩) pn pc sa sn sc da dn dc] w fun e w' => e = .returned (.bool (paidB root item h a ps ss ds)) ∧ Below w.heap.size w w' := by
  have L0 : Hid (Below w.heap.size w (w.alloc (.cells #[.int .i64 a, .string h.prev, .string h.root, .int .i64 h.time, .int .i64 h.diff, .int .i64 h.nonce, .slice (some ⟨pg, 0, none⟩) pn pc, .slice sa sn sc, .slice da dn dc] 47))) := (Below.refl _ w).alloc (Nat.le_refl _) _
  have hop := implPaidOpenG a h (some ⟨pg, 0, none⟩) pn pc sa sn sc da dn dc
  have HH : Hid (∀ w', Below w.heap.size w w' → Calls Tryz.prog 33 #[paidG a h (some ⟨pg, 0, none⟩) pn pc sa sn sc da dn dc, .string root, .string item] w' fun e w'' => e = .returned (.bool (paidB root item h a ps ss ds)) ∧ Below w'.heap.size w' w'') := fun w' hb => implPaidHasG a h pg pn pc ps sa sn sc ss da dn dc ds root item w' ham (hS.below hb) (hd.below hb) hn hm (hK.below hb hK.lt) (TabP.below hP hb (Nat.le_refl _))
  generalize paidB root item h a ps ss ds = R at HH ⊢
  clear ham hS hd hn hm hK hP
  unfold paidG at hop HH ⊢
  go_enter Tryz.func12, Tryz.ntmps12
  go_wp2_with fail
  refine (hop _).mono ?_
  rintro e w1 ⟨rfl, b1⟩
  have L1 : Hid (Below w.heap.size w w1) := L0.out.trans (b1.mono L0.out.size)
  clear L0 b1 hop
  go_wp2_with fail
  refine (HH.out _ L1.out).mono ?_
  rintro e w2 ⟨rfl, b2⟩
  go_wp2_with fail
  go_ret
  exact ⟨rfl, L1.out.trans (b2.mono L1.out.size)⟩

end Go.Proofs.YtkajpkfhedfmaaaGreatDoor

set_option linter.unusedVariables false
namespace Go.Proofs.YtkajpkfhedfmaaaGreatDoor
open Go.RowKit Go.Deep

/-- A block of heads that may be written. -/
def HdBk (w : World) (g n : Nat) : Prop := ∃ cur : Array Value, w.heap[g]? = some (.cells cur 36 (0, 0)) ∧ n * 5 ≤ cur.size
theorem HdBk.lt {w : World} {g n : Nat} (h : HdBk w g n) : g < w.heap.size := by
  obtain ⟨cur, h1, _⟩ := h
  rcases Nat.lt_or_ge g w.heap.size with h' | h'
  · exact h'
  · simp [Array.getElem?_eq_none h'] at h1
theorem HdBk.keep {w w' : World} {g n : Nat} (h : HdBk w g n) (hk : w'.heap[g]? = w.heap[g]?) : HdBk w' g n := by
  obtain ⟨cur, h1, h2⟩ := h
  exact ⟨cur, hk.trans h1, h2⟩
theorem HdBk.below {w w' : World} {g n B : Nat} (h : HdBk w g n) (hb : Below B w w') (hg : g < B) : HdBk w' g n := h.keep (hb.block g hg)
theorem HdBk.cell {w : World} {g n : Nat} (h : HdBk w g n) (i : Nat) (hi : i < n * 5) : (∃ v, w.cell? ⟨g, i, none⟩ = some v) ∧ w.frozen? ⟨g, i, none⟩ = false := by
  obtain ⟨cur, h1, h2⟩ := h
  refine ⟨?_, Lib.frozen_of_heap h1 i⟩
  rw [Lib.cell_of_heap h1]
  have hic : i < cur.size := by omega
  exact ⟨cur[i], Array.getElem?_eq_getElem hic⟩
theorem HdBk.set {w : World} {g n : Nat} (h : HdBk w g n) (i : Nat) (v : Value) : HdBk (w.setCell ⟨g, i, none⟩ v) g n := by
  obtain ⟨cur, h1, h2⟩ := h
  exact ⟨cur.setIfInBounds i v, by simp [World.setCell, Array.getElem?_modify, h1], by simpa using h2⟩
theorem HdBk.of {w : World} {g : Nat} {l : List HeadV} (h : RowHead w g l) : HdBk w g l.length := ⟨_, h, by simp [flat_length 5 enHead enHead_len]⟩
def MHPost (g n k : Nat) (w : World) (e : Ending) (w' : World) : Prop := e = .returned (.int .i64 ((k + 5 * n : Nat) : Int)) ∧ (∀ c, c < w.heap.size → c ≠ g → w'.heap[c]? = w.heap[c]?) ∧ Below 0 w w'
end Go.Proofs.YtkajpkfhedfmaaaGreatDoor

set_option linter.unusedVariables false
namespace Go.Proofs.YtkajpkfhedfmaaaGreatDoor
open Go.ChangeShapes Go.WideShapes Go.ChangeAt Go.RowKit Go.Deep

/-- A list of peaks that holds its marks from k on. -/
def HeldK (v : Value) (n k : Nat) (w : World) : Prop := (v = .slice none 0 0 ∧ n = 0) ∨ ∃ g cap, v = .slice (some ⟨g, 0, none⟩) n cap ∧ g < w.heap.size ∧ MkP w g k n
theorem HeldK.below {v : Value} {n k : Nat} {w w' : World} (h : HeldK v n k w) (hb : Below w.heap.size w w') : HeldK v n k w' := by
  rcases h with h | ⟨g, cap, h1, h2, h3⟩
  · exact .inl h
  · exact .inr ⟨g, cap, h1, Nat.lt_of_lt_of_le h2 hb.size, h3.below hb h2⟩
theorem HeldK.keep {v : Value} {n k : Nat} {w w' : World} (h : HeldK v n k w) (hs : w.heap.size ≤ w'.heap.size) (hk : ∀ g, blkOf v g → w'.heap[g]? = w.heap[g]?) : HeldK v n k w' := by
  rcases h with h | ⟨g, cap, rfl, h2, h3⟩
  · exact .inl h
  · have hg := hk g rfl
    refine .inr ⟨g, cap, rfl, Nat.lt_of_lt_of_le h2 hs, fun i hi => ?_⟩
    obtain ⟨m1, m2, m3⟩ := h3 i hi
    exact ⟨(World.cell?_of_block (a := ⟨g, i * 3, none⟩) hg).trans m1, (World.cell?_of_block (a := ⟨g, i * 3 + 1, none⟩) hg).trans m2, (World.cell?_of_block (a := ⟨g, i * 3 + 2, none⟩) hg).trans m3⟩
/-- A proof that holds its marks. -/
def HeldPf (u v : Value) (n m : Nat) (w : World) : Prop := HeldK u n 1 w ∧ HeldK v m (1 + 3 * n) w ∧ (∃ a c d, u = .slice a c d) ∧ (∃ a c d, v = .slice a c d)
theorem HeldPf.below {u v : Value} {n m : Nat} {w w' : World} (h : HeldPf u v n m w) (hb : Below w.heap.size w w') : HeldPf u v n m w' := ⟨h.1.below hb, h.2.1.below hb, h.2.2.1, h.2.2.2⟩
end Go.Proofs.YtkajpkfhedfmaaaGreatDoor

set_option linter.unusedVariables false
namespace Go.Proofs.YtkajpkfhedfmaaaGreatDoor
open Go.ChangeShapes Go.WideShapes Go.ChangeAt Go.RowKit Go.Deep

theorem CBk.nineP {w : World} {g : Nat} {T : TypeId} {a b c d e f x y z : Value} (h : CBk w g T #[a, b, c, d, e, f, x, y, z]) : w.cell? ⟨g, 0, none⟩ = some a ∧ w.cell? ⟨g, 1, none⟩ = some b ∧ w.cell? ⟨g, 2, none⟩ = some c ∧ w.cell? ⟨g, 3, none⟩ = some d ∧ w.cell? ⟨g, 4, none⟩ = some e ∧ w.cell? ⟨g, 5, none⟩ = some f ∧ w.cell? ⟨g, 6, none⟩ = some x ∧ w.cell? ⟨g, 7, none⟩ = some y ∧ w.cell? ⟨g, 8, none⟩ = some z :=
  ⟨h.cell 0, h.cell 1, h.cell 2, h.cell 3, h.cell 4, h.cell 5, h.cell 6, h.cell 7, h.cell 8⟩
/-- A proof that an item is there that holds its marks. -/
def HeldPd (u1 u2 u3 : Value) (n m k : Nat) (w : World) : Prop := HeldPf u1 u2 n m w ∧ HeldS u3 k (1 + 3 * n + 3 * m) w ∧ ∃ a c d, u3 = .slice a c d
theorem HeldPd.below {u1 u2 u3 : Value} {n m k : Nat} {w w' : World} (h : HeldPd u1 u2 u3 n m k w) (hb : Below w.heap.size w w') : HeldPd u1 u2 u3 n m k w' := ⟨h.1.below hb, h.2.1.below hb, h.2.2⟩
theorem HeldPf.keep {u v : Value} {n m : Nat} {w w' : World} (h : HeldPf u v n m w) (hs : w.heap.size ≤ w'.heap.size) (hu : ∀ g, blkOf u g → w'.heap[g]? = w.heap[g]?) (hv : ∀ g, blkOf v g → w'.heap[g]? = w.heap[g]?) : HeldPf u v n m w' := ⟨h.1.keep hs hu, h.2.1.keep hs hv, h.2.2.1, h.2.2.2⟩
end Go.Proofs.YtkajpkfhedfmaaaGreatDoor

