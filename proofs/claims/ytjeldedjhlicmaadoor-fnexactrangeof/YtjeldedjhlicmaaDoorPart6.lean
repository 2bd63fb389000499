/-
  Texts that the last part needs, joined.
-/
import Derived.Test.YtjeldedjhlicmaaDoorPart1
import Derived.Test.YtjeldedjhlicmaaDoorPart2
import Derived.Test.YtjeldedjhlicmaaDoorPart3
import Derived.Test.YtjeldedjhlicmaaDoorPart4
import Derived.Test.YtjeldedjhlicmaaDoorPart5
import Derived.Laws.StructEq
import Derived.Deep.RegionHeld3
import Derived.Test.YtjeldedjhlicmaaDoorProg
import Derived.WalkKit
import Derived.WalkSpells
import Derived.BigQuiet
import Derived.Deep.QuietTactic
import Derived.Below
import Derived.Lib.Builder
import Derived.OpenShut
import Derived.Laws.BitsLemmas
import Derived.Lib.SmallJoins
import Derived.Lib.FrozenHead2
set_option linter.unusedVariables false
namespace Go.Proofs.YtjeldedjhlicmaaDoor
open Go.RowKit Go.Deep

def peakVal (p : PeakV) : Value := .agg #[.string p.sum, .int .i64 p.work, .int .i64 p.count]
theorem CBk.cells5 {w : World} {g : Nat} {T : TypeId} {a b c d e : Value} (h : CBk w g T #[a, b, c, d, e]) : w.cell? ⟨g, 0, none⟩ = some a ∧ w.cell? ⟨g, 1, none⟩ = some b ∧ w.cell? ⟨g, 2, none⟩ = some c ∧ w.cell? ⟨g, 3, none⟩ = some d ∧ w.cell? ⟨g, 4, none⟩ = some e := ⟨h.cell 0, h.cell 1, h.cell 2, h.cell 3, h.cell 4⟩
theorem CBk.cells3 {w : World} {g : Nat} {T : TypeId} {a b c : Value} (h : CBk w g T #[a, b, c]) : w.cell? ⟨g, 0, none⟩ = some a ∧ w.cell? ⟨g, 1, none⟩ = some b ∧ w.cell? ⟨g, 2, none⟩ = some c := ⟨h.cell 0, h.cell 1, h.cell 2⟩
theorem CBk.drew2 {w : World} {g : Nat} {T : TypeId} {cs : Array Value} (h : CBk w g T cs) : CBk w.drew g T cs := h
theorem CBk.free3 {w : World} {g : Nat} {T : TypeId} {cs : Array Value} (h : CBk w g T cs) : w.frozen? ⟨g, 0, none⟩ = false ∧ w.frozen? ⟨g, 1, none⟩ = false ∧ w.frozen? ⟨g, 2, none⟩ = false := ⟨h.frozen 0, h.frozen 1, h.frozen 2⟩
/-- Behind a store of three cells. -/
theorem CBk.set3 {w : World} {g : Nat} {T : TypeId} {x y z a b c : Value} (h : CBk w g T #[x, y, z]) : CBk (((w.setCell ⟨g, 0, none⟩ a).setCell ⟨g, 1, none⟩ b).setCell ⟨g, 2, none⟩ c) g T #[a, b, c] := ((h.set 0 a).set 1 b).set 2 c

set_option maxHeartbeats 2000000 in
set_option maxRecDepth 100000 in
theorem implPeakHead (h : HeadV) (w : World) (hok : headOkB h = true) (hK : RowG w shaK) (hP : TabP w) :
    Calls Tryd.prog 39 #[headVal h] w fun e w' => e = .returned (peakVal (leafP h)) ∧ Below w.heap.size w w' := by
  have HK : Hid (RowG w shaK) := hK
  have HP : Hid (TabP w) := hP
  have e : headPut h = headT h := by rw [headPut, if_pos hok]
  have hpt := fun w' hp => implHeadPut h w' hp
  rw [e] at hpt
  clear e
  have hsz := leafXz hok
  have HX : Hid (_ = leafX h) := leafXs h
  have htl := headT_len hok
  unfold peakVal leafP
  dsimp only
  generalize headT h = ht at hpt hsz HX htl
  generalize leafX h = hx at HX ⊢
  unfold headVal
  have q1 : ¬ 9223372036854775807 < 5 + ht.length := by omega
  have A0 : Hid (CBk ((w.alloc (.cells #[.string h.prev, .string h.root, .int .i64 h.time, .int .i64 h.diff, .int .i64 h.nonce] 41)).alloc (.cells #[.string ⟨#[]⟩, .int .i64 0, .int .i64 0] 63)) w.heap.size 41 #[.string h.prev, .string h.root, .int .i64 h.time, .int .i64 h.diff, .int .i64 h.nonce]) := (CBk.new w _ _).alloc _
  have A1 : Hid (CBk ((w.alloc (.cells #[.string h.prev, .string h.root, .int .i64 h.time, .int .i64 h.diff, .int .i64 h.nonce] 41)).alloc (.cells #[.string ⟨#[]⟩, .int .i64 0, .int .i64 0] 63)) (w.heap.size + 1) 63 #[.string ⟨#[]⟩, .int .i64 0, .int .i64 0]) := by
    have := CBk.new (w.alloc (.cells #[.string h.prev, .string h.root, .int .i64 h.time, .int .i64 h.diff, .int .i64 h.nonce] 41)) 63 #[.string ⟨#[]⟩, .int .i64 0, .int .i64 0]
    rwa [show (w.alloc (.cells #[.string h.prev, .string h.root, .int .i64 h.time, .int .i64 h.diff, .int .i64 h.nonce] 41)).heap.size = w.heap.size + 1 from by simp] at this
  have L0 : Hid (Below w.heap.size w ((w.alloc (.cells #[.string h.prev, .string h.root, .int .i64 h.time, .int .i64 h.diff, .int .i64 h.nonce] 41)).alloc (.cells #[.string ⟨#[]⟩, .int .i64 0, .int .i64 0] 63))) := ((Below.refl _ w).alloc (Nat.le_refl _) _).alloc (by simp) _
  clear hok hK hP
  go_enter Tryd.func39, Tryd.ntmps39
  go_wp2_with fail
  generalize (w.alloc (.cells #[.string h.prev, .string h.root, .int .i64 h.time, .int .i64 h.diff, .int .i64 h.nonce] 41)).alloc (.cells #[.string ⟨#[]⟩, .int .i64 0, .int .i64 0] 63) = W0 at A0 A1 L0 ⊢
  obtain ⟨g0, hg0⟩ : ∃ g0, g0 = w.heap.size := ⟨_, rfl⟩
  have HG : Hid (g0 = w.heap.size) := hg0
  rw [← hg0] at A0 A1 ⊢
  clear hg0
  have hne : ¬ g0 = g0 + 1 := by omega
  have hne2 : ¬ g0 + 1 = g0 := by omega
  obtain ⟨c0, c1, c2, c3, c4⟩ := A0.out.drew2.cells5
  obtain ⟨d0, d1, d2⟩ := A1.out.drew2.cells3
  obtain ⟨f0, f1, f2⟩ := A1.out.drew2.free3
  go_region_held3 (fun w' => w'.cell? ⟨g0, 0, none⟩ = some (.string h.prev) ∧ w'.cell? ⟨g0, 1, none⟩ = some (.string h.root) ∧ w'.cell? ⟨g0, 2, none⟩ = some (.int .i64 h.time) ∧ w'.cell? ⟨g0, 3, none⟩ = some (.int .i64 h.diff) ∧ w'.cell? ⟨g0, 4, none⟩ = some (.int .i64 h.nonce))
    (first | (with_reducible first | exact A0.out.drew2.cells5 | exact B0.out.cells5 | exact C0.out.cells5) | go_keep)
    (first
      | (go_at_call 67; refine (hpt _ (TabP.below HP.out L0.out.drew (Nat.le_refl _))).mono ?_; rintro e w1 ⟨rfl, b1⟩; have B0 : Hid (CBk w1 g0 41 #[.string h.prev, .string h.root, .int .i64 h.time, .int .i64 h.diff, .int .i64 h.nonce]) := A0.out.drew2.call b1; have B1 : Hid (CBk w1 (g0 + 1) 63 #[.string ⟨#[]⟩, .int .i64 0, .int .i64 0]) := A1.out.drew2.call b1; have L1 : Hid (Below w.heap.size w w1) := L0.out.drew.trans (b1.mono L0.out.size))
      | (go_at_call 54; refine (implSum _ _ hsz (HK.out.below L1.out HK.out.lt)).mono ?_; rintro e w2 ⟨rfl, b2⟩; rw [HX.out]; have C0 : Hid (CBk w2 g0 41 #[.string h.prev, .string h.root, .int .i64 h.time, .int .i64 h.diff, .int .i64 h.nonce]) := B0.out.call b2; have C1 : Hid (CBk w2 (g0 + 1) 63 #[.string ⟨#[]⟩, .int .i64 0, .int .i64 0]) := B1.out.call b2; have L2 : Hid (Below w.heap.size w w2) := L1.out.trans (b2.mono L1.out.size); obtain ⟨e0, e1, e2⟩ := C1.out.cells3; obtain ⟨k0, k1, k2⟩ := C1.out.free3))
  have T3 : Hid (CBk (((w2.setCell ⟨g0 + 1, 0, none⟩ (.string ⟨(sumB hx).toArray⟩)).setCell ⟨g0 + 1, 1, none⟩ (.int .i64 h.diff)).setCell ⟨g0 + 1, 2, none⟩ (.int .i64 1)) (g0 + 1) 63 #[.string ⟨(sumB hx).toArray⟩, .int .i64 h.diff, .int .i64 1]) := C1.out.set3
  have LF : Hid (Below w.heap.size w (((w2.setCell ⟨g0 + 1, 0, none⟩ (.string ⟨(sumB hx).toArray⟩)).setCell ⟨g0 + 1, 1, none⟩ (.int .i64 h.diff)).setCell ⟨g0 + 1, 2, none⟩ (.int .i64 1))) := by
    have e4 := HG.out
    exact ((L2.out.setCell (p := ⟨g0 + 1, 0, none⟩) (by show w.heap.size ≤ g0 + 1; omega) _).setCell (p := ⟨g0 + 1, 1, none⟩) (by show w.heap.size ≤ g0 + 1; omega) _).setCell (p := ⟨g0 + 1, 2, none⟩) (by show w.heap.size ≤ g0 + 1; omega) _
  go_wp2_with fail
  exact bodyPost_ret (results_cell_row (p := 2) rfl _ _ (g0 + 1) 63 #[.string ⟨(sumB hx).toArray⟩, .int .i64 h.diff, .int .i64 1] (0, 0) _ rfl T3.out Tryd.underlying63 rfl (by kernel_rfl)) rfl ⟨rfl, LF.out⟩

set_option maxHeartbeats 2000000 in
set_option maxRecDepth 100000 in
theorem specL5Leaf (h : HeadV) (w : World) (hok : headOkB h = true) :
    Calls Tryd.prog 47 #[headVal h] w fun e w' => e = .returned (peakVal (leafP h)) ∧ Below w.heap.size w w' := by
  have hpt := fun w' => specL3Put h w' hok
  have hsz := leafXz hok
  have HX : Hid (_ = leafX h) := leafXs h
  have htl := headT_len hok
  unfold peakVal leafP
  dsimp only
  generalize headT h = ht at hpt hsz HX htl
  generalize leafX h = hx at HX ⊢
  unfold headVal
  have q1 : ¬ 9223372036854775807 < 5 + ht.length := by omega
  have A0 : Hid (CBk ((w.alloc (.cells #[.string h.prev, .string h.root, .int .i64 h.time, .int .i64 h.diff, .int .i64 h.nonce] 41)).alloc (.cells #[.string ⟨#[]⟩, .int .i64 0, .int .i64 0] 63)) w.heap.size 41 #[.string h.prev, .string h.root, .int .i64 h.time, .int .i64 h.diff, .int .i64 h.nonce]) := (CBk.new w _ _).alloc _
  have A1 : Hid (CBk ((w.alloc (.cells #[.string h.prev, .string h.root, .int .i64 h.time, .int .i64 h.diff, .int .i64 h.nonce] 41)).alloc (.cells #[.string ⟨#[]⟩, .int .i64 0, .int .i64 0] 63)) (w.heap.size + 1) 63 #[.string ⟨#[]⟩, .int .i64 0, .int .i64 0]) := by
    have := CBk.new (w.alloc (.cells #[.string h.prev, .string h.root, .int .i64 h.time, .int .i64 h.diff, .int .i64 h.nonce] 41)) 63 #[.string ⟨#[]⟩, .int .i64 0, .int .i64 0]
    rwa [show (w.alloc (.cells #[.string h.prev, .string h.root, .int .i64 h.time, .int .i64 h.diff, .int .i64 h.nonce] 41)).heap.size = w.heap.size + 1 from by simp] at this
  have L0 : Hid (Below w.heap.size w ((w.alloc (.cells #[.string h.prev, .string h.root, .int .i64 h.time, .int .i64 h.diff, .int .i64 h.nonce] 41)).alloc (.cells #[.string ⟨#[]⟩, .int .i64 0, .int .i64 0] 63))) := ((Below.refl _ w).alloc (Nat.le_refl _) _).alloc (by simp) _
  clear hok
  go_enter Tryd.func47, Tryd.ntmps47
  go_wp2_with fail
  generalize (w.alloc (.cells #[.string h.prev, .string h.root, .int .i64 h.time, .int .i64 h.diff, .int .i64 h.nonce] 41)).alloc (.cells #[.string ⟨#[]⟩, .int .i64 0, .int .i64 0] 63) = W0 at A0 A1 L0 ⊢
  obtain ⟨g0, hg0⟩ : ∃ g0, g0 = w.heap.size := ⟨_, rfl⟩
  have HG : Hid (g0 = w.heap.size) := hg0
  rw [← hg0] at A0 A1 ⊢
  clear hg0
  have hne : ¬ g0 = g0 + 1 := by omega
  have hne2 : ¬ g0 + 1 = g0 := by omega
  obtain ⟨c0, c1, c2, c3, c4⟩ := A0.out.drew2.cells5
  obtain ⟨d0, d1, d2⟩ := A1.out.drew2.cells3
  obtain ⟨f0, f1, f2⟩ := A1.out.drew2.free3
  go_region_held3 (fun w' => w'.cell? ⟨g0, 0, none⟩ = some (.string h.prev) ∧ w'.cell? ⟨g0, 1, none⟩ = some (.string h.root) ∧ w'.cell? ⟨g0, 2, none⟩ = some (.int .i64 h.time) ∧ w'.cell? ⟨g0, 3, none⟩ = some (.int .i64 h.diff) ∧ w'.cell? ⟨g0, 4, none⟩ = some (.int .i64 h.nonce))
    (first | (with_reducible first | exact A0.out.drew2.cells5 | exact B0.out.cells5 | exact C0.out.cells5) | go_keep)
    (first
      | (go_at_call 73; refine (hpt _).mono ?_; rintro e w1 ⟨rfl, b1⟩; have B0 : Hid (CBk w1 g0 41 #[.string h.prev, .string h.root, .int .i64 h.time, .int .i64 h.diff, .int .i64 h.nonce]) := A0.out.drew2.call b1; have B1 : Hid (CBk w1 (g0 + 1) 63 #[.string ⟨#[]⟩, .int .i64 0, .int .i64 0]) := A1.out.drew2.call b1; have L1 : Hid (Below w.heap.size w w1) := L0.out.drew.trans (b1.mono L0.out.size))
      | (go_at_call 72; refine (specSum _ _ hsz).mono ?_; rintro e w2 ⟨rfl, b2⟩; rw [HX.out]; have C0 : Hid (CBk w2 g0 41 #[.string h.prev, .string h.root, .int .i64 h.time, .int .i64 h.diff, .int .i64 h.nonce]) := B0.out.call b2; have C1 : Hid (CBk w2 (g0 + 1) 63 #[.string ⟨#[]⟩, .int .i64 0, .int .i64 0]) := B1.out.call b2; have L2 : Hid (Below w.heap.size w w2) := L1.out.trans (b2.mono L1.out.size); obtain ⟨e0, e1, e2⟩ := C1.out.cells3; obtain ⟨k0, k1, k2⟩ := C1.out.free3))
  have T3 : Hid (CBk (((w2.setCell ⟨g0 + 1, 0, none⟩ (.string ⟨(sumB hx).toArray⟩)).setCell ⟨g0 + 1, 1, none⟩ (.int .i64 h.diff)).setCell ⟨g0 + 1, 2, none⟩ (.int .i64 1)) (g0 + 1) 63 #[.string ⟨(sumB hx).toArray⟩, .int .i64 h.diff, .int .i64 1]) := C1.out.set3
  have LF : Hid (Below w.heap.size w (((w2.setCell ⟨g0 + 1, 0, none⟩ (.string ⟨(sumB hx).toArray⟩)).setCell ⟨g0 + 1, 1, none⟩ (.int .i64 h.diff)).setCell ⟨g0 + 1, 2, none⟩ (.int .i64 1))) := by
    have e4 := HG.out
    exact ((L2.out.setCell (p := ⟨g0 + 1, 0, none⟩) (by show w.heap.size ≤ g0 + 1; omega) _).setCell (p := ⟨g0 + 1, 1, none⟩) (by show w.heap.size ≤ g0 + 1; omega) _).setCell (p := ⟨g0 + 1, 2, none⟩) (by show w.heap.size ≤ g0 + 1; omega) _
  go_wp2_with fail
  exact bodyPost_ret (results_cell_row (p := 2) rfl _ _ (g0 + 1) 63 #[.string ⟨(sumB hx).toArray⟩, .int .i64 h.diff, .int .i64 1] (0, 0) _ rfl T3.out Tryd.underlying63 rfl (by kernel_rfl)) rfl ⟨rfl, LF.out⟩

set_option maxHeartbeats 4000000 in
set_option maxRecDepth 100000 in
theorem implPeakBoth (a b : PeakV) (w : World) (ha : peakOkB a = true) (hb : peakOkB b = true) (hK : RowG w shaK) (hP : TabP w) :
    Calls Tryd.prog 61 #[peakVal a, peakVal b] w fun e w' => e = .returned (peakVal (bothP a b)) ∧ Below w.heap.size w w' := by
  have HK : Hid (RowG w shaK) := hK
  have HP : Hid (TabP w) := hP
  have hpa := fun w' hp => implPeakPut a w' ha hp
  have hpb := fun w' hp => implPeakPut b w' hb hp
  have hsa := peakB_size ha
  have hsb := peakB_size hb
  have hia := peakOk_in ha
  have hib := peakOk_in hb
  have hsz := bothX_size ha hb
  have HXE : Hid (((⟨#[112, 101, 97, 107, 32]⟩ : ByteArray) ++ peakB a) ++ (⟨#[32]⟩ : ByteArray) ++ peakB b = bothX a b) := rfl
  have hw1 : IntKind.i64.wrap (a.work + b.work) = a.work + b.work := by rw [IntKind.wrap_i64]; omega
  have hw2 : IntKind.i64.wrap (a.count + b.count) = a.count + b.count := by rw [IntKind.wrap_i64]; omega
  unfold peakVal bothP
  dsimp only
  generalize peakB a = pa at hpa hsa HXE
  generalize peakB b = pb at hpb hsb HXE
  generalize bothX a b = X at hsz HXE ⊢
  have q1 : ¬ 9223372036854775807 < 5 + pa.size := by omega
  have q2 : ¬ 9223372036854775807 < 5 + pa.size + 1 := by omega
  have q3 : ¬ 9223372036854775807 < 5 + pa.size + 1 + pb.size := by omega
  have A0 : Hid (CBk (((w.alloc (.cells #[.string a.sum, .int .i64 a.work, .int .i64 a.count] 63)).alloc (.cells #[.string b.sum, .int .i64 b.work, .int .i64 b.count] 63)).alloc (.cells #[.string ⟨#[]⟩, .int .i64 0, .int .i64 0] 63)) w.heap.size 63 #[.string a.sum, .int .i64 a.work, .int .i64 a.count]) := ((CBk.new w _ _).alloc _).alloc _
  have A1 : Hid (CBk (((w.alloc (.cells #[.string a.sum, .int .i64 a.work, .int .i64 a.count] 63)).alloc (.cells #[.string b.sum, .int .i64 b.work, .int .i64 b.count] 63)).alloc (.cells #[.string ⟨#[]⟩, .int .i64 0, .int .i64 0] 63)) (w.heap.size + 1) 63 #[.string b.sum, .int .i64 b.work, .int .i64 b.count]) := by
    have := (CBk.new (w.alloc (.cells #[.string a.sum, .int .i64 a.work, .int .i64 a.count] 63)) 63 #[.string b.sum, .int .i64 b.work, .int .i64 b.count]).alloc (.cells #[.string ⟨#[]⟩, .int .i64 0, .int .i64 0] 63)
    rwa [show (w.alloc (.cells #[.string a.sum, .int .i64 a.work, .int .i64 a.count] 63)).heap.size = w.heap.size + 1 from by simp] at this
  have A2 : Hid (CBk (((w.alloc (.cells #[.string a.sum, .int .i64 a.work, .int .i64 a.count] 63)).alloc (.cells #[.string b.sum, .int .i64 b.work, .int .i64 b.count] 63)).alloc (.cells #[.string ⟨#[]⟩, .int .i64 0, .int .i64 0] 63)) (w.heap.size + 1 + 1) 63 #[.string ⟨#[]⟩, .int .i64 0, .int .i64 0]) := by
    have := CBk.new ((w.alloc (.cells #[.string a.sum, .int .i64 a.work, .int .i64 a.count] 63)).alloc (.cells #[.string b.sum, .int .i64 b.work, .int .i64 b.count] 63)) 63 #[.string ⟨#[]⟩, .int .i64 0, .int .i64 0]
    rwa [show ((w.alloc (.cells #[.string a.sum, .int .i64 a.work, .int .i64 a.count] 63)).alloc (.cells #[.string b.sum, .int .i64 b.work, .int .i64 b.count] 63)).heap.size = w.heap.size + 1 + 1 from by simp] at this
  have L0 : Hid (Below w.heap.size w (((w.alloc (.cells #[.string a.sum, .int .i64 a.work, .int .i64 a.count] 63)).alloc (.cells #[.string b.sum, .int .i64 b.work, .int .i64 b.count] 63)).alloc (.cells #[.string ⟨#[]⟩, .int .i64 0, .int .i64 0] 63))) := (((Below.refl _ w).alloc (Nat.le_refl _) _).alloc (by simp) _).alloc (by simp; omega) _
  clear ha hb hK hP hia hib
  go_enter Tryd.func61, Tryd.ntmps61
  go_wp2_with fail
  generalize ((w.alloc (.cells #[.string a.sum, .int .i64 a.work, .int .i64 a.count] 63)).alloc (.cells #[.string b.sum, .int .i64 b.work, .int .i64 b.count] 63)).alloc (.cells #[.string ⟨#[]⟩, .int .i64 0, .int .i64 0] 63) = W0 at A0 A1 A2 L0 ⊢
  obtain ⟨g0, hg0⟩ : ∃ g0, g0 = w.heap.size := ⟨_, rfl⟩
  have HG : Hid (g0 = w.heap.size) := hg0
  rw [← hg0] at A0 A1 A2 ⊢
  clear hg0
  have hne : ¬ g0 = g0 + 1 + 1 := by omega
  have hne2 : ¬ g0 + 1 + 1 = g0 := by omega
  have hne3 : ¬ g0 + 1 = g0 + 1 + 1 := by omega
  have hne4 : ¬ g0 + 1 + 1 = g0 + 1 := by omega
  obtain ⟨c0, c1, c2⟩ := A0.out.drew2.cells3
  obtain ⟨m0, m1, m2⟩ := A1.out.drew2.cells3
  go_region_held3 (fun w' => (w'.cell? ⟨g0, 0, none⟩ = some (.string a.sum) ∧ w'.cell? ⟨g0, 1, none⟩ = some (.int .i64 a.work) ∧ w'.cell? ⟨g0, 2, none⟩ = some (.int .i64 a.count)) ∧ (w'.cell? ⟨g0 + 1, 0, none⟩ = some (.string b.sum) ∧ w'.cell? ⟨g0 + 1, 1, none⟩ = some (.int .i64 b.work) ∧ w'.cell? ⟨g0 + 1, 2, none⟩ = some (.int .i64 b.count)))
    (first | (with_reducible first | exact ⟨A0.out.drew2.cells3, A1.out.drew2.cells3⟩ | exact ⟨B0.out.cells3, B1.out.cells3⟩ | exact ⟨C0.out.cells3, C1.out.cells3⟩ | exact ⟨D0.out.cells3, D1.out.cells3⟩) | go_keep)
    (first
      | (go_at_call 53; have q9 := B0.out.cells3; clear q9; refine (hpb _ (TabP.below HP.out L1.out (Nat.le_refl _))).mono ?_; rintro e w2 ⟨rfl, b2⟩; have C0 : Hid (CBk w2 g0 63 #[.string a.sum, .int .i64 a.work, .int .i64 a.count]) := B0.out.call b2; have C1 : Hid (CBk w2 (g0 + 1) 63 #[.string b.sum, .int .i64 b.work, .int .i64 b.count]) := B1.out.call b2; have C2 : Hid (CBk w2 (g0 + 1 + 1) 63 #[.string ⟨#[]⟩, .int .i64 0, .int .i64 0]) := B2.out.call b2; have L2 : Hid (Below w.heap.size w w2) := L1.out.trans (b2.mono L1.out.size))
      | (go_at_call 53; refine (hpa _ (TabP.below HP.out L0.out.drew (Nat.le_refl _))).mono ?_; rintro e w1 ⟨rfl, b1⟩; have B0 : Hid (CBk w1 g0 63 #[.string a.sum, .int .i64 a.work, .int .i64 a.count]) := A0.out.drew2.call b1; have B1 : Hid (CBk w1 (g0 + 1) 63 #[.string b.sum, .int .i64 b.work, .int .i64 b.count]) := A1.out.drew2.call b1; have B2 : Hid (CBk w1 (g0 + 1 + 1) 63 #[.string ⟨#[]⟩, .int .i64 0, .int .i64 0]) := A2.out.drew2.call b1; have L1 : Hid (Below w.heap.size w w1) := L0.out.drew.trans (b1.mono L0.out.size))
      | (go_at_call 54; rw [HXE.out]; refine (implSum _ _ hsz (HK.out.below L2.out HK.out.lt)).mono ?_; rintro e w3 ⟨rfl, b3⟩; have D0 : Hid (CBk w3 g0 63 #[.string a.sum, .int .i64 a.work, .int .i64 a.count]) := C0.out.call b3; have D1 : Hid (CBk w3 (g0 + 1) 63 #[.string b.sum, .int .i64 b.work, .int .i64 b.count]) := C1.out.call b3; have D2 : Hid (CBk w3 (g0 + 1 + 1) 63 #[.string ⟨#[]⟩, .int .i64 0, .int .i64 0]) := C2.out.call b3; have L3 : Hid (Below w.heap.size w w3) := L2.out.trans (b3.mono L2.out.size)))
  obtain ⟨p0, p1, p2⟩ := D0.out.cells3
  obtain ⟨r0, r1, r2⟩ := D1.out.cells3
  obtain ⟨e0, e1, e2⟩ := D2.out.cells3
  obtain ⟨k0, k1, k2⟩ := D2.out.free3
  clear c0 c1 c2 m0 m1 m2
  have T3 : Hid (CBk (((w3.setCell ⟨g0 + 1 + 1, 0, none⟩ (.string ⟨(sumB X.data.toList).toArray⟩)).setCell ⟨g0 + 1 + 1, 1, none⟩ (.int .i64 (a.work + b.work))).setCell ⟨g0 + 1 + 1, 2, none⟩ (.int .i64 (a.count + b.count))) (g0 + 1 + 1) 63 #[.string ⟨(sumB X.data.toList).toArray⟩, .int .i64 (a.work + b.work), .int .i64 (a.count + b.count)]) := D2.out.set3
  have LF : Hid (Below w.heap.size w (((w3.setCell ⟨g0 + 1 + 1, 0, none⟩ (.string ⟨(sumB X.data.toList).toArray⟩)).setCell ⟨g0 + 1 + 1, 1, none⟩ (.int .i64 (a.work + b.work))).setCell ⟨g0 + 1 + 1, 2, none⟩ (.int .i64 (a.count + b.count)))) := by
    have e4 := HG.out
    exact ((L3.out.setCell (p := ⟨g0 + 1 + 1, 0, none⟩) (by show w.heap.size ≤ g0 + 1 + 1; omega) _).setCell (p := ⟨g0 + 1 + 1, 1, none⟩) (by show w.heap.size ≤ g0 + 1 + 1; omega) _).setCell (p := ⟨g0 + 1 + 1, 2, none⟩) (by show w.heap.size ≤ g0 + 1 + 1; omega) _
  go_wp2_with fail
  exact bodyPost_ret (results_cell_row (p := 4) rfl _ _ (g0 + 1 + 1) 63 #[.string ⟨(sumB X.data.toList).toArray⟩, .int .i64 (a.work + b.work), .int .i64 (a.count + b.count)] (0, 0) _ rfl T3.out Tryd.underlying63 rfl (by kernel_rfl)) rfl ⟨rfl, LF.out⟩

set_option maxHeartbeats 4000000 in
set_option maxRecDepth 100000 in
theorem specL5Both (a b : PeakV) (w : World) (ha : peakOkB a = true) (hb : peakOkB b = true) :
    Calls Tryd.prog 71 #[peakVal a, peakVal b] w fun e w' => e = .returned (peakVal (bothP a b)) ∧ Below w.heap.size w w' := by
  have hpa := fun w' => specPeakText a w' ha
  have hpb := fun w' => specPeakText b w' hb
  have hsa := peakB_size ha
  have hsb := peakB_size hb
  have hia := peakOk_in ha
  have hib := peakOk_in hb
  have hsz := bothX_size ha hb
  have HXE : Hid (((⟨#[112, 101, 97, 107, 32]⟩ : ByteArray) ++ peakB a) ++ (⟨#[32]⟩ : ByteArray) ++ peakB b = bothX a b) := rfl
  have hw1 : IntKind.i64.wrap (a.work + b.work) = a.work + b.work := by rw [IntKind.wrap_i64]; omega
  have hw2 : IntKind.i64.wrap (a.count + b.count) = a.count + b.count := by rw [IntKind.wrap_i64]; omega
  unfold peakVal bothP
  dsimp only
  generalize peakB a = pa at hpa hsa HXE
  generalize peakB b = pb at hpb hsb HXE
  generalize bothX a b = X at hsz HXE ⊢
  have q1 : ¬ 9223372036854775807 < 5 + pa.size := by omega
  have q2 : ¬ 9223372036854775807 < 5 + pa.size + 1 := by omega
  have q3 : ¬ 9223372036854775807 < 5 + pa.size + 1 + pb.size := by omega
  have A0 : Hid (CBk (((w.alloc (.cells #[.string a.sum, .int .i64 a.work, .int .i64 a.count] 63)).alloc (.cells #[.string b.sum, .int .i64 b.work, .int .i64 b.count] 63)).alloc (.cells #[.string ⟨#[]⟩, .int .i64 0, .int .i64 0] 63)) w.heap.size 63 #[.string a.sum, .int .i64 a.work, .int .i64 a.count]) := ((CBk.new w _ _).alloc _).alloc _
  have A1 : Hid (CBk (((w.alloc (.cells #[.string a.sum, .int .i64 a.work, .int .i64 a.count] 63)).alloc (.cells #[.string b.sum, .int .i64 b.work, .int .i64 b.count] 63)).alloc (.cells #[.string ⟨#[]⟩, .int .i64 0, .int .i64 0] 63)) (w.heap.size + 1) 63 #[.string b.sum, .int .i64 b.work, .int .i64 b.count]) := by
    have := (CBk.new (w.alloc (.cells #[.string a.sum, .int .i64 a.work, .int .i64 a.count] 63)) 63 #[.string b.sum, .int .i64 b.work, .int .i64 b.count]).alloc (.cells #[.string ⟨#[]⟩, .int .i64 0, .int .i64 0] 63)
    rwa [show (w.alloc (.cells #[.string a.sum, .int .i64 a.work, .int .i64 a.count] 63)).heap.size = w.heap.size + 1 from by simp] at this
  have A2 : Hid (CBk (((w.alloc (.cells #[.string a.sum, .int .i64 a.work, .int .i64 a.count] 63)).alloc (.cells #[.string b.sum, .int .i64 b.work, .int .i64 b.count] 63)).alloc (.cells #[.string ⟨#[]⟩, .int .i64 0, .int .i64 0] 63)) (w.heap.size + 1 + 1) 63 #[.string ⟨#[]⟩, .int .i64 0, .int .i64 0]) := by
    have := CBk.new ((w.alloc (.cells #[.string a.sum, .int .i64 a.work, .int .i64 a.count] 63)).alloc (.cells #[.string b.sum, .int .i64 b.work, .int .i64 b.count] 63)) 63 #[.string ⟨#[]⟩, .int .i64 0, .int .i64 0]
    rwa [show ((w.alloc (.cells #[.string a.sum, .int .i64 a.work, .int .i64 a.count] 63)).alloc (.cells #[.string b.sum, .int .i64 b.work, .int .i64 b.count] 63)).heap.size = w.heap.size + 1 + 1 from by simp] at this
  have L0 : Hid (Below w.heap.size w (((w.alloc (.cells #[.string a.sum, .int .i64 a.work, .int .i64 a.count] 63)).alloc (.cells #[.string b.sum, .int .i64 b.work, .int .i64 b.count] 63)).alloc (.cells #[.string ⟨#[]⟩, .int .i64 0, .int .i64 0] 63))) := (((Below.refl _ w).alloc (Nat.le_refl _) _).alloc (by simp) _).alloc (by simp; omega) _
  clear ha hb hia hib
  go_enter Tryd.func71, Tryd.ntmps71
  go_wp2_with fail
  generalize ((w.alloc (.cells #[.string a.sum, .int .i64 a.work, .int .i64 a.count] 63)).alloc (.cells #[.string b.sum, .int .i64 b.work, .int .i64 b.count] 63)).alloc (.cells #[.string ⟨#[]⟩, .int .i64 0, .int .i64 0] 63) = W0 at A0 A1 A2 L0 ⊢
  obtain ⟨g0, hg0⟩ : ∃ g0, g0 = w.heap.size := ⟨_, rfl⟩
  have HG : Hid (g0 = w.heap.size) := hg0
  rw [← hg0] at A0 A1 A2 ⊢
  clear hg0
  have hne : ¬ g0 = g0 + 1 + 1 := by omega
  have hne2 : ¬ g0 + 1 + 1 = g0 := by omega
  have hne3 : ¬ g0 + 1 = g0 + 1 + 1 := by omega
  have hne4 : ¬ g0 + 1 + 1 = g0 + 1 := by omega
  obtain ⟨c0, c1, c2⟩ := A0.out.drew2.cells3
  obtain ⟨m0, m1, m2⟩ := A1.out.drew2.cells3
  go_region_held3 (fun w' => (w'.cell? ⟨g0, 0, none⟩ = some (.string a.sum) ∧ w'.cell? ⟨g0, 1, none⟩ = some (.int .i64 a.work) ∧ w'.cell? ⟨g0, 2, none⟩ = some (.int .i64 a.count)) ∧ (w'.cell? ⟨g0 + 1, 0, none⟩ = some (.string b.sum) ∧ w'.cell? ⟨g0 + 1, 1, none⟩ = some (.int .i64 b.work) ∧ w'.cell? ⟨g0 + 1, 2, none⟩ = some (.int .i64 b.count)))
    (first | (with_reducible first | exact ⟨A0.out.drew2.cells3, A1.out.drew2.cells3⟩ | exact ⟨B0.out.cells3, B1.out.cells3⟩ | exact ⟨C0.out.cells3, C1.out.cells3⟩ | exact ⟨D0.out.cells3, D1.out.cells3⟩) | go_keep)
    (first
      | (go_at_call 77; have q9 := B0.out.cells3; clear q9; refine (hpb _).mono ?_; rintro e w2 ⟨rfl, b2⟩; have C0 : Hid (CBk w2 g0 63 #[.string a.sum, .int .i64 a.work, .int .i64 a.count]) := B0.out.call b2; have C1 : Hid (CBk w2 (g0 + 1) 63 #[.string b.sum, .int .i64 b.work, .int .i64 b.count]) := B1.out.call b2; have C2 : Hid (CBk w2 (g0 + 1 + 1) 63 #[.string ⟨#[]⟩, .int .i64 0, .int .i64 0]) := B2.out.call b2; have L2 : Hid (Below w.heap.size w w2) := L1.out.trans (b2.mono L1.out.size))
      | (go_at_call 77; refine (hpa _).mono ?_; rintro e w1 ⟨rfl, b1⟩; have B0 : Hid (CBk w1 g0 63 #[.string a.sum, .int .i64 a.work, .int .i64 a.count]) := A0.out.drew2.call b1; have B1 : Hid (CBk w1 (g0 + 1) 63 #[.string b.sum, .int .i64 b.work, .int .i64 b.count]) := A1.out.drew2.call b1; have B2 : Hid (CBk w1 (g0 + 1 + 1) 63 #[.string ⟨#[]⟩, .int .i64 0, .int .i64 0]) := A2.out.drew2.call b1; have L1 : Hid (Below w.heap.size w w1) := L0.out.drew.trans (b1.mono L0.out.size))
      | (go_at_call 72; rw [HXE.out]; refine (specSum _ _ hsz).mono ?_; rintro e w3 ⟨rfl, b3⟩; have D0 : Hid (CBk w3 g0 63 #[.string a.sum, .int .i64 a.work, .int .i64 a.count]) := C0.out.call b3; have D1 : Hid (CBk w3 (g0 + 1) 63 #[.string b.sum, .int .i64 b.work, .int .i64 b.count]) := C1.out.call b3; have D2 : Hid (CBk w3 (g0 + 1 + 1) 63 #[.string ⟨#[]⟩, .int .i64 0, .int .i64 0]) := C2.out.call b3; have L3 : Hid (Below w.heap.size w w3) := L2.out.trans (b3.mono L2.out.size); obtain ⟨e0, e1, e2⟩ := D2.out.cells3; obtain ⟨k0, k1, k2⟩ := D2.out.free3))
  have T3 : Hid (CBk (((w3.setCell ⟨g0 + 1 + 1, 0, none⟩ (.string ⟨(sumB X.data.toList).toArray⟩)).setCell ⟨g0 + 1 + 1, 1, none⟩ (.int .i64 (a.work + b.work))).setCell ⟨g0 + 1 + 1, 2, none⟩ (.int .i64 (a.count + b.count))) (g0 + 1 + 1) 63 #[.string ⟨(sumB X.data.toList).toArray⟩, .int .i64 (a.work + b.work), .int .i64 (a.count + b.count)]) := D2.out.set3
  have LF : Hid (Below w.heap.size w (((w3.setCell ⟨g0 + 1 + 1, 0, none⟩ (.string ⟨(sumB X.data.toList).toArray⟩)).setCell ⟨g0 + 1 + 1, 1, none⟩ (.int .i64 (a.work + b.work))).setCell ⟨g0 + 1 + 1, 2, none⟩ (.int .i64 (a.count + b.count)))) := by
    have e4 := HG.out
    exact ((L3.out.setCell (p := ⟨g0 + 1 + 1, 0, none⟩) (by show w.heap.size ≤ g0 + 1 + 1; omega) _).setCell (p := ⟨g0 + 1 + 1, 1, none⟩) (by show w.heap.size ≤ g0 + 1 + 1; omega) _).setCell (p := ⟨g0 + 1 + 1, 2, none⟩) (by show w.heap.size ≤ g0 + 1 + 1; omega) _
  go_wp2_with fail
  exact bodyPost_ret (results_cell_row (p := 4) rfl _ _ (g0 + 1 + 1) 63 #[.string ⟨(sumB X.data.toList).toArray⟩, .int .i64 (a.work + b.work), .int .i64 (a.count + b.count)] (0, 0) _ rfl T3.out Tryd.underlying63 rfl (by kernel_rfl)) rfl ⟨rfl, LF.out⟩

end Go.Proofs.YtjeldedjhlicmaaDoor

set_option linter.unusedVariables false
namespace Go.Proofs.YtjeldedjhlicmaaDoor
open Go.RowKit

def sameHB (p q : HeadV) : Bool := p.prev.toList == q.prev.toList && (p.root.toList == q.root.toList && (p.time == q.time && (p.diff == q.diff && p.nonce == q.nonce)))
theorem fieldsHead : (Tryd.prog.fieldsOf 41).toList.map (fun f => (f.name != "_", f.type, f.offset)) = [(true, 9, 0), (true, 9, 1), (true, 3, 2), (true, 3, 3), (true, 3, 4)] := by kernel_rfl
theorem eqHeadT : Tryd.prog.underlying 41 = some (.struct (Tryd.prog.fieldsOf 41)) := by kernel_rfl
theorem eqHeadS : Tryd.prog.stoodInHeld 41 = false := by kernel_rfl
theorem eqHeadG : Tryd.prog.eqGuardType Tryd.prog.depth 41 = false := by kernel_rfl
theorem eqStep {P : Program} {d : Nat} {xs ys : Array Value} {f : Field} {fs : List Field} {w : World} {t o : Nat} {a b : Value} {r r2 : Bool} (hn : (f.name != "_") = true) (ht : f.type = t) (ho : f.offset = o) (ha : (part t xs o).run P w = .ok a w) (hb : (part t ys o).run P w = .ok b w)
    (hr : (Op.equalIn d t a b).run P w = .ok r w) (h2 : (Op.eqFields d xs ys fs).run P w = .ok r2 w) : (Op.eqFields d xs ys (f :: fs)).run P w = .ok (r && r2) w := by
  have hn' : f.name ≠ "_" := by simpa using hn
  subst ht ho
  unfold Op.eqFields
  rw [if_pos hn']
  simp only [Sem.run_bind, ha, hb, hr, Result.andThen_ok, Sem.run_ite, Sem.run_pure, h2]
  cases r <;> simp
theorem runSameHead (p q : HeadV) (w : World) : (Op.equalIn 10000 41 (.agg #[.string p.prev, .string p.root, .int .i64 p.time, .int .i64 p.diff, .int .i64 p.nonce]) (.agg #[.string q.prev, .string q.root, .int .i64 q.time, .int .i64 q.diff, .int .i64 q.nonce])).run Tryd.prog w = .ok (sameHB p q) w := by
  rw [run_equalIn_struct w 9999 _ _ _ eqHeadT eqHeadS]
  have hf := fieldsHead
  generalize (Tryd.prog.fieldsOf 41).toList = fs at hf
  rcases fs with _ | ⟨f0, _ | ⟨f1, _ | ⟨f2, _ | ⟨f3, _ | ⟨f4, _ | ⟨f5, fs⟩⟩⟩⟩⟩⟩
  all_goals try (simp at hf; done)
  simp only [List.map_cons, List.map_nil, List.cons.injEq, Prod.mk.injEq, and_true] at hf
  obtain ⟨⟨n0, t0, o0⟩, ⟨n1, t1, o1⟩, ⟨n2, t2, o2⟩, ⟨n3, t3, o3⟩, n4, t4, o4⟩ := hf
  refine eqStep n0 t0 o0 (by kernel_rfl) (by kernel_rfl) (run_equalIn_string w 9998 _ _ _ Tryd.underlying9) ?_
  refine eqStep n1 t1 o1 (by kernel_rfl) (by kernel_rfl) (run_equalIn_string w 9998 _ _ _ Tryd.underlying9) ?_
  refine eqStep n2 t2 o2 (by kernel_rfl) (by kernel_rfl) (run_equalIn_int w 9998 _ .i64 _ _ _ Tryd.underlying3) ?_
  refine eqStep n3 t3 o3 (by kernel_rfl) (by kernel_rfl) (run_equalIn_int w 9998 _ .i64 _ _ _ Tryd.underlying3) ?_
  have h4 := eqStep (d := 9999) (xs := #[.string p.prev, .string p.root, .int .i64 p.time, .int .i64 p.diff, .int .i64 p.nonce]) (ys := #[.string q.prev, .string q.root, .int .i64 q.time, .int .i64 q.diff, .int .i64 q.nonce]) (fs := []) (w := w) (P := Tryd.prog) (r2 := true) n4 t4 o4 (by kernel_rfl) (by kernel_rfl) (run_equalIn_int w 9998 _ .i64 _ p.nonce q.nonce Tryd.underlying3) (by simp [Op.eqFields])
  rw [Bool.and_true] at h4
  exact h4
theorem runHeadEq (p q : HeadV) (w : World) : (binOp .eql 41 (.agg #[.string p.prev, .string p.root, .int .i64 p.time, .int .i64 p.diff, .int .i64 p.nonce]) (.agg #[.string q.prev, .string q.root, .int .i64 q.time, .int .i64 q.diff, .int .i64 q.nonce])).run Tryd.prog w = .ok (.bool (sameHB p q)) w := by
  rw [run_eql_struct, runSameHead]
  rfl
theorem runHeadNe (p q : HeadV) (w : World) : (binOp .neq 41 (.agg #[.string p.prev, .string p.root, .int .i64 p.time, .int .i64 p.diff, .int .i64 p.nonce]) (.agg #[.string q.prev, .string q.root, .int .i64 q.time, .int .i64 q.diff, .int .i64 q.nonce])).run Tryd.prog w = .ok (.bool (!sameHB p q)) w := by
  rw [run_neq_struct, runSameHead]
  rfl
theorem sameHB_iff (p q : HeadV) : sameHB p q = true ↔ p = q := by
  have hs : ∀ a b : ByteArray, a.toList = b.toList → a = b := fun a b h => by
    rw [ByteArray.toList_eq, ByteArray.toList_eq] at h
    exact ByteArray.ext (by simpa using h)
  constructor
  · intro h
    simp only [sameHB, Bool.and_eq_true, beq_iff_eq] at h
    obtain ⟨h0, h1, h2, h3, h4⟩ := h
    cases p
    cases q
    simp_all
    exact ⟨hs _ _ h0, hs _ _ h1⟩
  · rintro rfl
    simp [sameHB]

end Go.Proofs.YtjeldedjhlicmaaDoor

set_option linter.unusedVariables false
namespace Go.Proofs.YtjeldedjhlicmaaDoor
open Go.RowKit Go.Deep

theorem fieldsPk : (Tryd.prog.fieldsOf 63).toList.map (fun f => (f.name != "_", f.type, f.offset)) = [(true, 9, 0), (true, 3, 1), (true, 3, 2)] := by kernel_rfl
theorem eqPkT : Tryd.prog.underlying 63 = some (.struct (Tryd.prog.fieldsOf 63)) := by kernel_rfl
theorem eqPkS : Tryd.prog.stoodInHeld 63 = false := by kernel_rfl
theorem eqPkG : Tryd.prog.eqGuardType Tryd.prog.depth 63 = false := by kernel_rfl
theorem runSamePk (p q : PeakV) (w : World) : (Op.equalIn 10000 63 (.agg #[.string p.sum, .int .i64 p.work, .int .i64 p.count]) (.agg #[.string q.sum, .int .i64 q.work, .int .i64 q.count])).run Tryd.prog w = .ok (samePB p q) w := by
  rw [run_equalIn_struct w 9999 _ _ _ eqPkT eqPkS]
  have hf := fieldsPk
  generalize (Tryd.prog.fieldsOf 63).toList = fs at hf
  rcases fs with _ | ⟨f0, _ | ⟨f1, _ | ⟨f2, _ | ⟨f3, fs⟩⟩⟩⟩
  all_goals try (simp at hf; done)
  simp only [List.map_cons, List.map_nil, List.cons.injEq, Prod.mk.injEq, and_true] at hf
  obtain ⟨⟨n0, t0, o0⟩, ⟨n1, t1, o1⟩, n2, t2, o2⟩ := hf
  refine eqStep n0 t0 o0 (by kernel_rfl) (by kernel_rfl) (run_equalIn_string w 9998 _ _ _ Tryd.underlying9) ?_
  refine eqStep n1 t1 o1 (by kernel_rfl) (by kernel_rfl) (run_equalIn_int w 9998 _ .i64 _ _ _ Tryd.underlying3) ?_
  have h4 := eqStep (d := 9999) (xs := #[.string p.sum, .int .i64 p.work, .int .i64 p.count]) (ys := #[.string q.sum, .int .i64 q.work, .int .i64 q.count]) (fs := []) (w := w) (P := Tryd.prog) (r2 := true) n2 t2 o2 (by kernel_rfl) (by kernel_rfl) (run_equalIn_int w 9998 _ .i64 _ p.count q.count Tryd.underlying3) (by simp [Op.eqFields])
  rw [Bool.and_true] at h4
  exact h4

set_option maxHeartbeats 1000000 in
set_option maxRecDepth 100000 in
theorem implPeakAlike (a b : PeakV) (w : World) :
    Calls Tryd.prog 59 #[peakVal a, peakVal b] w fun e w' => e = .returned (.bool (a.count == b.count)) ∧ Below w.heap.size w w' := by
  unfold peakVal
  have L0 : Hid (Below w.heap.size w ((w.alloc (.cells #[.string a.sum, .int .i64 a.work, .int .i64 a.count] 63)).alloc (.cells #[.string b.sum, .int .i64 b.work, .int .i64 b.count] 63))) := ((Below.refl _ w).alloc (Nat.le_refl _) _).alloc (by simp) _
  go_enter Tryd.func59, Tryd.ntmps59
  go_wp2
  go_ret
  exact ⟨rfl, L0.out⟩

/-- What stands while a head climbs: the peak that is looked for, the head, the peak so far. -/
structure ClimbW (w wr : World) (g0 g9 : Nat) (top q : PeakV) : Prop where
  t : CBk wr g0 63 #[.string top.sum, .int .i64 top.work, .int .i64 top.count]
  p : CBk wr g9 63 #[.string q.sum, .int .i64 q.work, .int .i64 q.count]
  ne : g0 < g9
  lo : w.heap.size ≤ g0
  b : Below w.heap.size w wr
theorem ClimbW.call {w wr w' : World} {g0 g9 : Nat} {top q : PeakV} (h : ClimbW w wr g0 g9 top q) (hb : Below wr.heap.size wr w') : ClimbW w w' g0 g9 top q :=
  ⟨h.t.call hb, h.p.call hb, h.ne, h.lo, h.b.trans (hb.mono h.b.size)⟩
theorem ClimbW.store {w wr : World} {g0 g9 : Nat} {top q : PeakV} (h : ClimbW w wr g0 g9 top q) (r : PeakV) : ClimbW w (((wr.setCell ⟨g9, 0, none⟩ (.string r.sum)).setCell ⟨g9, 1, none⟩ (.int .i64 r.work)).setCell ⟨g9, 2, none⟩ (.int .i64 r.count)) g0 g9 top r := by
  have h1 := h.ne
  have h2 := h.lo
  exact ⟨((h.t.other (by omega) _).other (by omega) _).other (by omega) _, h.p.set3, h1, h2, ((h.b.setCell (p := ⟨g9, 0, none⟩) (by show w.heap.size ≤ g9; omega) _).setCell (p := ⟨g9, 1, none⟩) (by show w.heap.size ≤ g9; omega) _).setCell (p := ⟨g9, 2, none⟩) (by show w.heap.size ≤ g9; omega) _⟩

set_option linter.unusedSimpArgs false in
set_option maxHeartbeats 8000000 in
set_option maxRecDepth 100000 in
theorem implRangeClimb (top : PeakV) (h : HeadV) (a : Nat) (g n cap : Nat) (ss : List PeakV) (w : World) (hok : headOkB h = true) (ha : a ≤ 20) (hA : AtP w g ss) (hn : n = ss.length) (hm : n ≤ 8) (hss : ∀ i, i < ss.length → peakOkB (ss.getD i default) = true) (hK : RowG w shaK) (hP : TabP w) :
    Calls Tryd.prog 65 #[peakVal top, headVal h, .int .i64 (a : Int), .slice (some ⟨g, 0, none⟩) n cap] w fun e w' => e = .returned (.int .i64 (climbV top h a ss)) ∧ Below w.heap.size w w' := by
  have HA : Hid (AtP w g ss) := hA
  have HN : Hid (n = ss.length) := hn
  have HSS : Hid (∀ i, i < ss.length → peakOkB (ss.getD i default) = true) := hss
  have HK : Hid (RowG w shaK) := hK
  have HP : Hid (TabP w) := hP
  have hph := fun w' (hb : Below w.heap.size w w') => implPeakHead h w' hok (HK.out.below hb HK.out.lt) (TabP.below HP.out hb (Nat.le_refl _))
  have HF0 : Hid (Fine (leafP h) 0 0) := fine_leaf hok
  have HBAD : Hid (walkTo (leafP h) a ss ss.length = none → climbV top h a ss = -1) := fun hw => climb_none hw
  have HGOO : Hid (∀ q l, walkTo (leafP h) a ss n = some (q, l) → climbV top h a ss = if samePB q top = true then l else -1) := fun q l hw => climb_some (by rw [← HN.out]; exact hw)
  have HW0 : Hid (walkTo (leafP h) a ss 0 = some (leafP h, 0)) := rfl
  generalize climbV top h a ss = R at HBAD HGOO ⊢
  have HS : Hid (∀ i q l, walkTo (leafP h) a ss i = some (q, l) → (peakOkB (ss.getD i default) && decide ((ss.getD i default).count = q.count)) = false → i < n → R = -1) := fun i q l h1 h2 h3 => HBAD.out (walk_bad h1 h2 (by rw [← HN.out]; exact h3))
  have HL : Hid (∀ i q l, walkTo (leafP h) a ss i = some (q, l) → (peakOkB (ss.getD i default) && decide ((ss.getD i default).count = q.count)) = true → a / 2 ^ i % 2 = 1 → walkTo (leafP h) a ss (i + 1) = some (bothP (ss.getD i default) q, l + (ss.getD i default).work)) := fun i q l h1 h2 h3 => walk_left h1 h2 h3
  have HR : Hid (∀ i q l, walkTo (leafP h) a ss i = some (q, l) → (peakOkB (ss.getD i default) && decide ((ss.getD i default).count = q.count)) = true → ¬ a / 2 ^ i % 2 = 1 → walkTo (leafP h) a ss (i + 1) = some (bothP q (ss.getD i default), l)) := fun i q l h1 h2 h3 => walk_right h1 h2 h3
  clear hok hA hn hss hK hP HBAD
  unfold headVal at hph ⊢
  unfold peakVal at hph ⊢
  generalize leafP h = lf at hph HF0 HGOO HW0 HS HL HR
  have A0 : Hid (CBk ((w.alloc (.cells #[.string top.sum, .int .i64 top.work, .int .i64 top.count] 63)).alloc (.cells #[.string h.prev, .string h.root, .int .i64 h.time, .int .i64 h.diff, .int .i64 h.nonce] 41)) w.heap.size 63 #[.string top.sum, .int .i64 top.work, .int .i64 top.count]) := (CBk.new w _ _).alloc _
  have L0 : Hid (Below w.heap.size w ((w.alloc (.cells #[.string top.sum, .int .i64 top.work, .int .i64 top.count] 63)).alloc (.cells #[.string h.prev, .string h.root, .int .i64 h.time, .int .i64 h.diff, .int .i64 h.nonce] 41))) := ((Below.refl _ w).alloc (Nat.le_refl _) _).alloc (by simp) _
  go_enter Tryd.func65, Tryd.ntmps65
  go_wp2_with fail
  refine (hph _ L0.out).mono ?_
  rintro e w1 ⟨rfl, b1⟩
  obtain ⟨g0, hg0⟩ : ∃ g0, g0 = w.heap.size := ⟨_, rfl⟩
  obtain ⟨g9, hg9⟩ : ∃ g9, g9 = w1.heap.size := ⟨_, rfl⟩
  have L1 : Hid (Below w.heap.size w w1) := L0.out.trans (b1.mono L0.out.size)
  have A1 : Hid (CBk w1 w.heap.size 63 #[.string top.sum, .int .i64 top.work, .int .i64 top.count]) := A0.out.call b1
  have CW : Hid (ClimbW w (w1.alloc (.cells #[.string lf.sum, .int .i64 lf.work, .int .i64 lf.count] 63)) g0 g9 top lf) := by
    refine ⟨by rw [hg0]; exact A1.out.alloc _, by rw [hg9]; exact CBk.new w1 _ _, ?_, by omega, L1.out.alloc L1.out.size _⟩
    have := A1.out.lt
    omega
  clear A0 L0 b1 hph L1 A1
  rw [← hg0]
  clear hg0
  go_wp2_with fail
  generalize w1.alloc (.cells #[.string lf.sum, .int .i64 lf.work, .int .i64 lf.count] 63) = W1 at CW ⊢
  rw [← hg9]
  clear hg9
  clear w1
  go_loopw [10, 17] (fun l i wr => ∃ (k : Nat) (q : PeakV) (lv : Int), k ≤ n ∧ i = .int .i64 (k : Int) ∧ l = .int .i64 lv ∧ Hid (ClimbW w wr g0 g9 top q) ∧ Hid (walkTo lf a ss k = some (q, lv)) ∧ Hid (Fine q lv k)) (fun _ i _ => n - (intOf i).toNat)
  case atStart => exact ⟨0, lf, 0, by omega, rfl, rfl, CW, HW0, HF0⟩
  case round =>
    clear CW HF0 HW0
    obtain ⟨k, q, lv, hk, rfl, rfl, CR, HWk, HFk⟩ := hrel
    by_cases hlt : k < n
    · have hkl : k < ss.length := by rw [← HN.out]; exact hlt
      have HAr : Hid (AtP wr g ss) := HA.out.below CR.out.b HA.out.1
      have q0 := AtP.c0 HAr.out k hkl
      have q1 := AtP.c1 HAr.out k hkl
      have q2 := AtP.c2 HAr.out k hkl
      have lk : (k : Int) < (n : Int) := by omega
      have lk0 : (0 : Int) ≤ (k : Int) := by omega
      have wk : IntKind.i64.wrap ((k : Int) + 1) = (k : Int) + 1 := by rw [IntKind.wrap_i64]; omega
      have HK1 : Hid (k + 1 ≤ n) := hlt
      have HX1 : Hid ((peakOkB (ss.getD k default) && decide ((ss.getD k default).count = q.count)) = false → R = -1) := fun hf => HS.out k q lv HWk.out hf hlt
      have HX2 := HL.out k q lv HWk.out
      have HX3 := HR.out k q lv HWk.out
      have HX2 : Hid _ := HX2
      have HX3 : Hid _ := HX3
      have hso := HSS.out k hkl
      clear HWk hkl HAr
      generalize ss.getD k default = s at q0 q1 q2 HX1 HX2 HX3 hso
      have CS : Hid (CBk (wr.alloc (.cells #[.string s.sum, .int .i64 s.work, .int .i64 s.count] 63)) wr.heap.size 63 #[.string s.sum, .int .i64 s.work, .int .i64 s.count]) := CBk.new wr _ _
      have CA : Hid (ClimbW w (wr.alloc (.cells #[.string s.sum, .int .i64 s.work, .int .i64 s.count] 63)) g0 g9 top q) := CR.out.call ((Below.refl _ wr).alloc (Nat.le_refl _) _)
      obtain ⟨gs, hgs⟩ : ∃ gs, gs = wr.heap.size := ⟨_, rfl⟩
      have HG9 : Hid (g9 < gs) := by show _ < _; rw [hgs]; exact CR.out.p.lt
      rw [← hgs] at CS
      obtain ⟨d0, d1, d2⟩ := CA.out.p.cells3
      go_wp2_with fail
      clear d0 d1 d2
      generalize wr.alloc (.cells #[.string s.sum, .int .i64 s.work, .int .i64 s.count] 63) = wa at CS CA ⊢
      rw [← hgs]
      clear hgs q0 q1 q2 CR
      have hal := implPeakAlike s q wa
      unfold peakVal at hal
      by_cases hcq : s.count = q.count
      · have hb1 : (peakOkB s && decide (s.count = q.count)) = true := by rw [hso, decide_eq_true hcq]; rfl
        have hcb : (s.count == q.count) = true := by simpa using hcq
        rw [hcb] at hal
        have hfl := fine_lt HFk.out hb1
        have hfi := peakOk_in hfl.1
        have hqi := peakOk_in hfl.2.2.1
        have HX2 := HX2.out hb1
        have HX3 := HX3.out hb1
        have hbit : (bits .and .i64 (a : Int) ((2 ^ k : Nat) : Int) != 0) = decide (a / 2 ^ k % 2 = 1) := bit_half ⟨a, by omega⟩ ⟨k, by have := hfl.2.2.2; omega⟩
        rw [← HFk.out.cnt] at hbit
        have hw3 : IntKind.i64.wrap (lv + s.work) = lv + s.work := by
          have h1 := HFk.out.l0
          have h2 := HFk.out.l1
          rw [IntKind.wrap_i64]; omega
        have hpb1 := fun w' (hb : Below w.heap.size w w') => implPeakBoth s q w' hfl.1 hfl.2.2.1 (HK.out.below hb HK.out.lt) (TabP.below HP.out hb (Nat.le_refl _))
        have hpb2 := fun w' (hb : Below w.heap.size w w') => implPeakBoth q s w' hfl.2.2.1 hfl.1 (HK.out.below hb HK.out.lt) (TabP.below HP.out hb (Nat.le_refl _))
        have HF1 : Hid (Fine (bothP s q) (lv + s.work) (k + 1)) := fine_left HFk.out hb1
        have HF2 : Hid (Fine (bothP q s) lv (k + 1)) := fine_right HFk.out hb1
        unfold peakVal at hpb1 hpb2
        clear HX1 HS hso hcq hcb hb1 hfl hfi hqi
        refine hal.mono ?_
        rintro e w3 ⟨rfl, b3⟩
        have CS3 : Hid (CBk w3 gs 63 #[.string s.sum, .int .i64 s.work, .int .i64 s.count]) := CS.out.call b3
        have CA3 : Hid (ClimbW w w3 g0 g9 top q) := CA.out.call b3
        clear CS CA b3 hal
        obtain ⟨c0, c1, c2⟩ := CS3.out.cells3
        obtain ⟨d0, d1, d2⟩ := CA3.out.p.cells3
        obtain ⟨r, hr⟩ : ∃ r, r = bits .and .i64 (a : Int) q.count := ⟨_, rfl⟩
        rw [← hr] at hbit
        replace hr := hr.symm
        by_cases hbv : a / 2 ^ k % 2 = 1
        · rw [decide_eq_true hbv] at hbit
          have hr0 : ¬ r = 0 := by simpa using hbit
          have HXW : Hid (walkTo lf a ss (k + 1) = some (bothP s q, lv + s.work)) := HX2 hbv
          have hp1 := hpb1 _ CA3.out.b
          clear hpb1 hpb2 HX2 HX3 HF2 hbv HFk
          go_wp2_with fail
          refine hp1.mono ?_
          rintro e w4 ⟨rfl, b4⟩
          have CA4 : Hid (ClimbW w w4 g0 g9 top q) := CA3.out.call b4
          clear CS3 CA3 b4 hp1 c0 c1 c2 d0 d1 d2 hr
          obtain ⟨d0, d1, d2⟩ := CA4.out.p.cells3
          obtain ⟨f0, f1, f2⟩ := CA4.out.p.free3
          have CA5 : Hid _ := CA4.out.store (bothP s q)
          generalize bothP s q = nq at CA5 HF1 HXW
          clear CA4
          go_wp2_with fail
          go_roundw
          case rel => exact ⟨k + 1, nq, lv + s.work, HK1.out, by go_num, rfl, CA5, HXW, HF1⟩
          case measure => have := HK1.out; simp [intOf]; omega
        · rw [decide_eq_false hbv] at hbit
          have hr0 : r = 0 := by simpa using hbit
          have HXW : Hid (walkTo lf a ss (k + 1) = some (bothP q s, lv)) := HX3 hbv
          have hp2 := hpb2 _ CA3.out.b
          clear hpb1 hpb2 HX2 HX3 HF1 hbv HFk hw3
          go_wp2_with fail
          refine hp2.mono ?_
          rintro e w4 ⟨rfl, b4⟩
          have CA4 : Hid (ClimbW w w4 g0 g9 top q) := CA3.out.call b4
          clear CS3 CA3 b4 hp2 c0 c1 c2 d0 d1 d2 hr
          obtain ⟨d0, d1, d2⟩ := CA4.out.p.cells3
          obtain ⟨f0, f1, f2⟩ := CA4.out.p.free3
          have CA5 : Hid _ := CA4.out.store (bothP q s)
          generalize bothP q s = nq at CA5 HF2 HXW
          clear CA4
          go_wp2_with fail
          go_roundw
          case rel => exact ⟨k + 1, nq, lv, HK1.out, by go_num, rfl, CA5, HXW, HF2⟩
          case measure => have := HK1.out; simp [intOf]; omega
      · have HV : Hid (R = -1) := HX1.out (by rw [hso, decide_eq_false hcq]; rfl)
        have hcb : (s.count == q.count) = false := by simpa using hcq
        rw [hcb] at hal
        clear HX1 HX2 HX3 HS HL HR HGOO hso hcq hcb
        refine hal.mono ?_
        rintro e w3 ⟨rfl, b3⟩
        have CA3 : Hid (ClimbW w w3 g0 g9 top q) := CA.out.call b3
        clear CS CA b3 hal
        go_wp2_with fail
        go_ret
        exact ⟨by rw [HV.out]; rfl, CA3.out.b⟩
    · obtain rfl : k = n := by omega
      have HV : Hid (R = if samePB q top = true then lv else -1) := HGOO.out q lv HWk.out
      obtain ⟨d0, d1, d2⟩ := CR.out.p.cells3
      obtain ⟨t0, t1, t2⟩ := CR.out.t.cells3
      have hse := runSamePk q top
      have hgd := eqPkG
      generalize samePB q top = sm at hse HV
      clear HS HL HR HGOO HWk HFk
      cases sm with
      | true =>
        go_wp2_with fail
        go_ret
        exact ⟨by rw [HV.out]; rfl, CR.out.b⟩
      | false =>
        go_wp2_with fail
        go_ret
        exact ⟨by rw [HV.out]; rfl, CR.out.b⟩

end Go.Proofs.YtjeldedjhlicmaaDoor

set_option linter.unusedVariables false
namespace Go.Proofs.YtjeldedjhlicmaaDoor
open Go.RowKit

/-- A slice of integers that came in: it is nil; or it leads to a row of cells, the numbers zs. -/
def IsRow (k : IntKind) (w : World) (a : Option Addr) (len cap : Nat) (zs : List Int) : Prop :=
  (a = none ∧ len = 0 ∧ cap = 0 ∧ zs = []) ∨
  ∃ x, a = some x ∧ len ≤ cap ∧ cap ≤ maxLen ∧ zs.length = cap ∧ (∀ i, i < zs.length → w.cell? (x.add i) = some (.int k (zs.getD i 0))) ∧ ∀ n ∈ zs, (Lit.int k n).wf = true

theorem xor_nat (X Y : Int) (hX : 0 ≤ X) (hX' : X < 4611686018427387904) (hY : 0 ≤ Y) (hY' : Y < 4611686018427387904) : ∃ u : Nat, bits .xor .i64 X Y = (u : Int) := by
  obtain ⟨a, rfl⟩ := Int.eq_ofNat_of_zero_le hX
  obtain ⟨b, rfl⟩ := Int.eq_ofNat_of_zero_le hY
  refine ⟨a ^^^ b, ?_⟩
  have hx : a ^^^ b < 2 ^ 62 := Nat.xor_lt_two_pow (by omega) (by omega)
  have h1 : (BitVec.ofInt 64 (a : Int)).toNat = a := by
    rw [BitVec.ofInt_natCast, BitVec.toNat_ofNat]; exact Nat.mod_eq_of_lt (by omega)
  have h2 : (BitVec.ofInt 64 (b : Int)).toNat = b := by
    rw [BitVec.ofInt_natCast, BitVec.toNat_ofNat]; exact Nat.mod_eq_of_lt (by omega)
  show IntKind.i64.wrap ((BitVec.ofInt 64 (a : Int) ^^^ BitVec.ofInt 64 (b : Int)).toNat : Int) = _
  rw [BitVec.toNat_xor, h1, h2, IntKind.wrap_i64]
  omega

/-- Block b alone has turned. -/
structure Only (b : Nat) (w w' : World) : Prop where
  os : w'.os = w.os
  tape : w'.tape = w.tape
  output : w'.output = w.output
  size : w'.heap.size = w.heap.size
  block : ∀ c, c ≠ b → w'.heap[c]? = w.heap[c]?
theorem Only.below {B b : Nat} {w w' : World} (h : Only b w w') (hb : B ≤ b) : Below B w w' :=
  ⟨h.os, h.tape, h.output, by rw [h.size]; exact Nat.le_refl _, fun k hk => h.block k (by omega)⟩
theorem Only.refl (b : Nat) (w : World) : Only b w w := ⟨rfl, rfl, rfl, rfl, fun _ _ => rfl⟩
theorem Only.trans {b : Nat} {u v w : World} (h : Only b u v) (k : Only b v w) : Only b u w :=
  ⟨k.os.trans h.os, k.tape.trans h.tape, k.output.trans h.output, k.size.trans h.size, fun c hc => (k.block c hc).trans (h.block c hc)⟩
theorem Only.setCell (b o : Nat) (v : Value) (w : World) : Only b w (w.setCell ⟨b, o, none⟩ v) :=
  ⟨rfl, rfl, rfl, by simp [World.setCell], fun c hc => Below.heap_setCell _ _ _ _ hc⟩
theorem Only.drew {b : Nat} {w w' : World} (h : Only b w w') : Only b w w'.drew := ⟨h.os, h.tape, h.output, h.size, h.block⟩
theorem Only.drewN {b : Nat} {w w' : World} (h : Only b w w') (n : Nat) : Only b w (w'.drewN n) := ⟨h.os, h.tape, h.output, h.size, h.block⟩

/-- The cells of a list of numbers, of texts, that lies whole in a block. -/
theorem cells_ints {w : World} {g : Nat} {zs : List Int} {cs : Array Value} {T : TypeId} {fr : Nat × Nat} (h : w.heap[g]? = some (.cells cs T fr)) (he : cs = (zs.map (Value.int .i64)).toArray) (n : Nat) (hn : n ≤ zs.length) :
    ∀ i, i < n → w.cell? ⟨g, i, none⟩ = some (.int .i64 (zs.getD i 0)) := by
  intro i hi
  rw [Lib.cell_of_heap h, he]
  have : i < zs.length := by omega
  simp [List.getElem?_eq_getElem this]
theorem cells_texts {w : World} {g : Nat} {ss : List ByteArray} {cs : Array Value} {T : TypeId} {fr : Nat × Nat} (h : w.heap[g]? = some (.cells cs T fr)) (he : cs = (ss.map Value.string).toArray) (n : Nat) (hn : n ≤ ss.length) :
    ∀ i, i < n → w.cell? ⟨g, i, none⟩ = some (.string (ss.getD i ByteArray.empty)) := by
  intro i hi
  rw [Lib.cell_of_heap h, he]
  have : i < ss.length := by omega
  simp [List.getElem?_eq_getElem this]

end Go.Proofs.YtjeldedjhlicmaaDoor

set_option linter.unusedVariables false
namespace Go.Proofs.YtjeldedjhlicmaaDoor
open Go.RowKit Go.Deep

set_option maxHeartbeats 1000000 in
set_option maxRecDepth 100000 in
theorem implSteps1 (p : PeakV) (w : World) :
    Calls Tryd.prog 89 #[.agg #[.string p.sum, .int .i64 p.work, .int .i64 p.count]] w fun e w' => e = .returned (.bool (!peakOkB p)) ∧ Below w.heap.size w w' := by
  have hpo := fun w' => implPeakOk p w'
  have L0 : Hid (Below w.heap.size w (w.alloc (.cells #[.string p.sum, .int .i64 p.work, .int .i64 p.count] 63))) := (Below.refl _ w).alloc (Nat.le_refl _) _
  generalize peakOkB p = R at hpo ⊢
  go_enter Tryd.func89, Tryd.ntmps89
  go_wp2_with fail
  refine (hpo _).mono ?_
  rintro e w1 ⟨rfl, b1⟩
  go_wp2_with fail
  go_ret
  exact ⟨rfl, L0.out.trans (b1.mono L0.out.size)⟩

set_option maxHeartbeats 1000000 in
set_option maxRecDepth 100000 in
theorem implIndexSteps (g n cap : Nat) (ss : List PeakV) (w : World) (h : AtP w g ss) (hn : n = ss.length) (hm : n ≤ 8) :
    Calls Tryd.prog 108 #[.slice (some ⟨g, 0, none⟩) n cap, .func (.func 89) #[] #[]] w fun e w' => (∃ x : Int, e = .returned (.int .i64 x) ∧ decide (0 ≤ x) = !stepsB ss) ∧ Below w.heap.size w w' := by
  have HA : Hid (AtP w g ss) := h
  have HN : Hid (n = ss.length) := hn
  have HBAD : Hid (∀ k, k < n → peakOkB (ss.getD k default) = false → stepsB ss = false) := fun k hk he => steps_bad (by omega) he
  have HGOO : Hid ((∀ k, k < n → peakOkB (ss.getD k default) = true) → stepsB ss = true) := fun hf => steps_good (by omega) (fun i hi => hf i (by omega))
  generalize stepsB ss = R at HBAD HGOO ⊢
  clear h hn
  go_enter Tryd.func108, Tryd.ntmps108
  go_wp2_with fail
  go_loopw [5, 8] (fun _ i wr => ∃ k : Nat, k ≤ n ∧ i = .int .i64 (k : Int) ∧ Hid (Below w.heap.size w wr) ∧ Hid (∀ j, j < k → peakOkB (ss.getD j default) = true)) (fun _ i _ => n - (intOf i).toNat)
  case atStart => exact ⟨0, by omega, rfl, Below.refl _ _, fun j hj => by omega⟩
  case round =>
    obtain ⟨k, hk, rfl, HB, HQ⟩ := hrel
    by_cases hlt : k < n
    · have hkl : k < ss.length := by rw [← HN.out]; exact hlt
      have HAr : Hid (AtP wr g ss) := HA.out.below HB.out HA.out.1
      have q0 := AtP.c0 HAr.out k hkl
      have q1 := AtP.c1 HAr.out k hkl
      have q2 := AtP.c2 HAr.out k hkl
      have lk : (k : Int) < (n : Int) := by omega
      have lk0 : (0 : Int) ≤ (k : Int) := by omega
      have wk : IntKind.i64.wrap ((k : Int) + 1) = (k : Int) + 1 := by rw [IntKind.wrap_i64]; omega
      have HK1 : Hid (k + 1 ≤ n) := hlt
      have HH : Hid (peakOkB (ss.getD k default) = false → R = false) := HBAD.out k hlt
      have HQ2 : Hid (peakOkB (ss.getD k default) = true → ∀ j, j < k + 1 → peakOkB (ss.getD j default) = true) := by
        intro h j hj
        rcases Nat.lt_or_ge j k with h' | h'
        · exact HQ.out j h'
        · obtain rfl : j = k := by omega
          exact h
      have hcl := implSteps1 (ss.getD k default) wr
      clear HQ HBAD HGOO hkl
      generalize peakOkB (ss.getD k default) = ok at hcl HH HQ2
      generalize ss.getD k default = c at q0 q1 q2 hcl
      cases ok with
      | false =>
        have HV : Hid (R = false) := HH.out rfl
        clear HH HQ2
        go_wp2_with fail
        refine hcl.mono ?_
        rintro e w1 ⟨rfl, b1⟩
        have HB1 : Hid (Below w.heap.size w w1) := HB.out.trans (b1.mono HB.out.size)
        clear b1
        go_wp2_with fail
        go_ret
        exact ⟨⟨_, rfl, by rw [HV.out]; exact decide_eq_true lk0⟩, HB1.out⟩
      | true =>
        have HQ3 : Hid (∀ j, j < k + 1 → peakOkB (ss.getD j default) = true) := HQ2.out rfl
        clear HH HQ2
        go_wp2_with fail
        refine hcl.mono ?_
        rintro e w1 ⟨rfl, b1⟩
        have HB1 : Hid (Below w.heap.size w w1) := HB.out.trans (b1.mono HB.out.size)
        clear b1
        go_wp2_with fail
        go_roundw
        case rel => exact ⟨k + 1, HK1.out, by go_num, HB1, HQ3⟩
        case measure => have := HK1.out; simp [intOf]; omega
    · obtain rfl : k = n := by omega
      have HV : Hid (R = true) := HGOO.out HQ.out
      clear HBAD HGOO HQ
      go_wp2_with fail
      go_ret
      exact ⟨⟨-1, rfl, by rw [HV.out]; rfl⟩, HB.out⟩

set_option maxHeartbeats 1000000 in
set_option maxRecDepth 100000 in
theorem implStepsOk (g n cap : Nat) (ss : List PeakV) (w : World) (h : AtP w g ss) (hn : n = ss.length) (hm : n ≤ 1048576) :
    Calls Tryd.prog 64 #[.slice (some ⟨g, 0, none⟩) n cap] w fun e w' => e = .returned (.bool (stepsB ss)) ∧ Below w.heap.size w w' := by
  by_cases h8 : n ≤ 8
  · have hix := implIndexSteps g n cap ss w h hn h8
    have hcf : Calls Tryd.prog 88 #[.slice (some ⟨g, 0, none⟩) n cap, .func (.func 89) #[] #[]] w fun e w' => e = .returned (.bool (!stepsB ss)) ∧ Below w.heap.size w w' := by
      generalize stepsB ss = R at hix ⊢
      clear h hn
      go_enter Tryd.func88, Tryd.ntmps88
      go_wp2_with fail
      refine hix.mono ?_
      rintro e w1 ⟨⟨x, rfl, hx⟩, b1⟩
      go_wp2_with fail
      go_ret
      exact ⟨by rw [← hx]; rfl, b1⟩
    clear hix
    generalize stepsB ss = R at hcf ⊢
    have h9 : ¬ (8 : Int) < (n : Int) := by omega
    have h7 : (n : Int) ≤ 8 := by omega
    clear h hn
    cases R with
    | true =>
      go_enter Tryd.func64, Tryd.ntmps64
      go_wp2_with fail
      refine hcf.mono ?_
      rintro e w1 ⟨rfl, b1⟩
      go_wp2_with fail
      go_ret
      exact ⟨rfl, b1⟩
    | false =>
      go_enter Tryd.func64, Tryd.ntmps64
      go_wp2_with fail
      refine hcf.mono ?_
      rintro e w1 ⟨rfl, b1⟩
      go_wp2_with fail
      go_ret
      exact ⟨rfl, b1⟩
  · have HV : Hid (stepsB ss = false) := steps_long (by omega)
    generalize stepsB ss = R at HV ⊢
    have h9 : (8 : Int) < (n : Int) := by omega
    have h7 : ¬ (n : Int) ≤ 8 := by omega
    clear h hn
    go_enter Tryd.func64, Tryd.ntmps64
    go_wp2_with fail
    go_ret
    exact ⟨by rw [HV.out]; rfl, Below.refl _ _⟩

end Go.Proofs.YtjeldedjhlicmaaDoor

set_option linter.unusedVariables false
namespace Go.Proofs.YtjeldedjhlicmaaDoor
open Go.ChangeShapes Go.WideShapes Go.ChangeAt Go.RowKit Go.Deep Go.Joins

set_option maxHeartbeats 1000000 in
set_option maxRecDepth 100000 in
theorem szPeaksR (r0 : Nat) (hr0 : r0 ≤ 1048576) (a : Option Addr) (len cap : Nat) (ps : List PeakV) (w : World) (h : IsPeaks w a len cap ps) :
    Calls Tryd.prog 17 #[.slice a len cap, .int .i64 (r0 : Int)] w fun e w' => Below w.heap.size w w' ∧ (e = .returned (.int .i64 (-1)) ∨ ∃ r : Nat, e = .returned (.int .i64 (r : Int)) ∧ r ≤ 1048576 ∧ len ≤ 1048576 ∧ ∀ i, i < len → (ps.getD i default).sum.size ≤ 1048576) := by
  have HP : Hid (IsPeaks w a len cap ps) := h
  have hlm : len ≤ maxLen := by
    rcases h with ⟨_, h1, _⟩ | ⟨x, _, h1, h2, _⟩ <;> omega
  unfold maxLen at hlm
  have hw : IntKind.i64.wrap ((r0 : Int) - (len : Int)) = (r0 : Int) - (len : Int) := by rw [IntKind.wrap_i64]; omega
  clear h
  by_cases hl : r0 < len
  · have hl' : (r0 : Int) - (len : Int) < 0 := by omega
    go_enter Tryd.func17, Tryd.ntmps17
    go_wp2_with fail
    go_ret
    exact ⟨Below.refl _ _, .inl rfl⟩
  · have hl' : ¬ (r0 : Int) - (len : Int) < 0 := by omega
    go_enter Tryd.func17, Tryd.ntmps17
    go_wp2_with fail
    clear hw hl'
    go_loopw [1, 5] (fun l i wr => ∃ (r k : Nat), k ≤ len ∧ r ≤ 1048576 ∧ i = .int .i64 (k : Int) ∧ l = .int .i64 (r : Int) ∧ Hid (Below w.heap.size w wr) ∧ Hid (∀ i, i < k → (ps.getD i default).sum.size ≤ 1048576)) (fun _ i _ => len - (intOf i).toNat)
    case atStart => exact ⟨r0 - len, 0, by omega, by omega, rfl, by show Value.int .i64 _ = Value.int .i64 _; congr 1; omega, Below.refl _ _, fun i hi => by omega⟩
    case round =>
      obtain ⟨r, k, hk, hr, rfl, rfl, HB, HS⟩ := hrel
      by_cases hlt : k < len
      · obtain ⟨x, rfl, hp⟩ := HP.out.at HB.out k hlt
        obtain ⟨c0, c1, c2⟩ := hp
        have lk : (k : Int) < (len : Int) := by omega
        have HK : Hid (k + 1 ≤ len) := hlt
        have hsz : (ps.getD k default).sum.size ≤ maxLen := HP.out.size k hlt
        have HN : Hid ((ps.getD k default).sum.size ≤ 1048576 → ∀ i, i < k + 1 → (ps.getD i default).sum.size ≤ 1048576) := by
          intro h1 i hi
          rcases Nat.lt_or_ge i k with h' | h'
          · exact HS.out i h'
          · obtain rfl : i = k := by omega
            exact h1
        generalize ps.getD k default = p at c0 c1 c2 hsz HN
        go_wp2_with fail
        refine (szPeak1 p r _ hr hsz).mono ?_
        rintro e w1 ⟨b1, rfl | ⟨q, rfl, hq, hps⟩⟩
        · go_wp2_with fail
          go_ret
          exact ⟨HB.out.trans (b1.mono HB.out.size), .inl rfl⟩
        · have HQ := HN.out hps
          have HQ2 : Hid (∀ i, i < k + 1 → (ps.getD i default).sum.size ≤ 1048576) := HQ
          clear HQ HN
          have hq0 : ¬ (q : Int) < 0 := by omega
          go_wp2_with fail
          go_roundw
          case rel => exact ⟨q, k + 1, HK.out, by omega, by go_num, rfl, HB.out.trans (b1.mono HB.out.size), HQ2⟩
          case measure => have := HK.out; simp [intOf]; omega
      · go_wp2_with fail
        go_ret
        exact ⟨HB.out, .inr ⟨r, rfl, by omega, by omega, fun i hi => HS.out i (by omega)⟩⟩

theorem CBk.two {w : World} {g : Nat} {T : TypeId} {a b : Value} (h : CBk w g T #[a, b]) : w.cell? ⟨g, 0, none⟩ = some a ∧ w.cell? ⟨g, 1, none⟩ = some b ∧ w.frozen? ⟨g, 0, none⟩ = false ∧ w.frozen? ⟨g, 1, none⟩ = false :=
  ⟨h.cell 0, h.cell 1, h.frozen 0, h.frozen 1⟩
theorem CBk.out2 {w : World} {g : Nat} {T : TypeId} {a b : Value} (h : CBk w g T #[a, b]) : w.cell? ⟨g, 0, none⟩ = some a ∧ w.cell? ⟨g, 1, none⟩ = some b := ⟨h.cell 0, h.cell 1⟩
/-- A proof of the laws. -/
structure LPrf where
  pa : Option Addr
  pn : Nat
  pc : Nat
  pl : List PeakV
  sa : Option Addr
  sn : Nat
  sc : Nat
  sl : List PeakV
def lprfVal (L : LPrf) : Value := .agg #[.slice L.pa L.pn L.pc, .slice L.sa L.sn L.sc]
structure IsPrf (w : World) (L : LPrf) : Prop where
  p : IsPeaks w L.pa L.pn L.pc L.pl
  s : IsPeaks w L.sa L.sn L.sc L.sl
theorem peaks_below {w w' : World} {a : Option Addr} {len cap : Nat} {ps : List PeakV} (h : IsPeaks w a len cap ps) (hb : Below w.heap.size w w') : IsPeaks w' a len cap ps := by
  have hat := fun i hi => h.at hb i hi
  rcases h with h1 | ⟨x, hx, h1, h2, h3, h4, h5⟩
  · exact .inl h1
  · refine .inr ⟨x, hx, h1, h2, h3, fun i hi => ?_, h5⟩
    obtain ⟨y, hy, hc⟩ := hat i hi
    rw [hx] at hy
    obtain rfl := Option.some.inj hy
    exact hc
theorem IsPrf.below {w w' : World} {L : LPrf} (h : IsPrf w L) (hb : Below w.heap.size w w') : IsPrf w' L := ⟨peaks_below h.p hb, peaks_below h.s hb⟩
theorem shape_slice2 {P : Program} {H : Type} {enc : TypeId × Value → H} {W : World} {base : Nat} {sp : Nat → Bool} {held : Bool} {n : Nat} {t e : TypeId} {v : Value} {y : DataW H × List MemPlace} (ht : P.underlying t = some (.slice e)) (h : DataW.trod enc P W base sp held n t [v] = some y) : ∃ a len cap, v = .slice a len cap := by
  rcases open_slice ht h with ⟨hcs, _⟩ | ⟨x, l, c, m, n, D, Pl, hcs, _⟩
  · simp at hcs
    exact ⟨_, _, _, hcs⟩
  · simp at hcs
    exact ⟨_, _, _, hcs⟩
theorem cellsLProof : Tryd.prog.cellsOf 53 = 2 := by kernel_rfl
set_option maxRecDepth 100000 in
theorem open_proof {H : Type} {enc : TypeId × Value → H} {W : World} {base b0 : Nat} {held : Bool} {v : Value} {d : DataW H} {p : List MemPlace} (hv : Value.okWide Tryd.prog W .any b0 53 v) (h : DataW.Trod enc Tryd.prog W base (fun _ => true) held 53 v d p) :
    ∃ L : LPrf, v = lprfVal L ∧ IsPrf W L := by
  obtain ⟨c0, c1, y0, y1, n, rfl, _, _, h0, h1⟩ := open_agg2 Tryd.underlying53 (by kernel_rfl) cellsLProof hv h
  replace h0 : DataW.trod enc Tryd.prog W base (fun _ => true) held n 33 [c0] = some y0 := h0
  replace h1 : DataW.trod enc Tryd.prog W base (fun _ => true) held n 33 [c1] = some y1 := h1
  obtain ⟨a0, l0, k0, rfl⟩ := shape_slice2 Tryd.underlying33 h0
  obtain ⟨a1, l1, k1, rfl⟩ := shape_slice2 Tryd.underlying33 h1
  obtain ⟨pl, hp⟩ := open_peaks (d := y0.1) (p := y0.2) ⟨n, h0⟩
  obtain ⟨sl, hs⟩ := open_peaks (d := y1.1) (p := y1.2) ⟨n, h1⟩
  exact ⟨⟨a0, l0, k0, pl, a1, l1, k1, sl⟩, rfl, ⟨hp, hs⟩⟩

structure SmallPrf (L : LPrf) : Prop where
  pn : L.pn ≤ 1048576
  ps : ∀ i, i < L.pn → (L.pl.getD i default).sum.size ≤ 1048576
  sn : L.sn ≤ 1048576
  ss : ∀ i, i < L.sn → (L.sl.getD i default).sum.size ≤ 1048576
set_option maxHeartbeats 1000000 in
set_option maxRecDepth 100000 in
theorem szProof1 (L : LPrf) (r0 : Nat) (hr0 : r0 ≤ 1048576) (w : World) (h : IsPrf w L) :
    Calls Tryd.prog 30 #[lprfVal L, .int .i64 (r0 : Int)] w fun e w' => Below w.heap.size w w' ∧ (e = .returned (.int .i64 (-1)) ∨ ∃ r : Nat, e = .returned (.int .i64 (r : Int)) ∧ r ≤ 1048576 ∧ SmallPrf L) := by
  have HQ : Hid (L.pn ≤ 1048576 → (∀ i, i < L.pn → (L.pl.getD i default).sum.size ≤ 1048576) → L.sn ≤ 1048576 → (∀ i, i < L.sn → (L.sl.getD i default).sum.size ≤ 1048576) → SmallPrf L) := fun h1 h2 h3 h4 => ⟨h1, h2, h3, h4⟩
  generalize SmallPrf L = Q at HQ ⊢
  have HI : Hid (∀ w', Below w.heap.size w w' → IsPrf w' L) := fun w' hb => h.below hb
  clear h
  unfold lprfVal
  have B0 : Hid (CBk (w.alloc (.cells #[.slice L.pa L.pn L.pc, .slice L.sa L.sn L.sc] 53)) w.heap.size 53 #[.slice L.pa L.pn L.pc, .slice L.sa L.sn L.sc]) := CBk.new w _ _
  have L0 : Hid (Below w.heap.size w (w.alloc (.cells #[.slice L.pa L.pn L.pc, .slice L.sa L.sn L.sc] 53))) := (Below.refl _ w).alloc (Nat.le_refl _) _
  go_enter Tryd.func30, Tryd.ntmps30
  go_wp2_with fail
  refine (szPeaksR r0 hr0 L.pa L.pn L.pc L.pl _ (HI.out _ L0.out).p).mono ?_
  rintro e w1 ⟨b1, rfl | ⟨r, rfl, hr, hn, hs⟩⟩
  · go_wp2_with fail
    go_ret
    exact ⟨L0.out.trans (b1.mono L0.out.size), .inl rfl⟩
  have L1 : Hid (Below w.heap.size w w1) := L0.out.trans (b1.mono L0.out.size)
  have B1 : Hid (CBk w1 w.heap.size 53 #[.slice L.pa L.pn L.pc, .slice L.sa L.sn L.sc]) := B0.out.call b1
  obtain ⟨c0, c1, _⟩ := B1.out.two
  have HS1 : Hid (L.pn ≤ 1048576 ∧ ∀ i, i < L.pn → (L.pl.getD i default).sum.size ≤ 1048576) := ⟨hn, hs⟩
  have hrn : ¬ (r : Int) < 0 := by omega
  clear B0 L0 b1 hs hn
  go_wp2_with fail
  refine (szPeaksR r hr L.sa L.sn L.sc L.sl _ (HI.out _ L1.out).s).mono ?_
  rintro e w3 ⟨b3, rfl | ⟨r3, rfl, hr3, hn3, hs3⟩⟩
  · go_wp2_with fail
    go_ret
    exact ⟨L1.out.trans (b3.mono L1.out.size), .inl rfl⟩
  have HS3 : Hid (L.sn ≤ 1048576 ∧ ∀ i, i < L.sn → (L.sl.getD i default).sum.size ≤ 1048576) := ⟨hn3, hs3⟩
  have HR3 : Hid (r3 ≤ 1048576) := by show _ ≤ _; omega
  have hr30 : ¬ (r3 : Int) < 0 := by omega
  clear hs3 hn3 hr3
  go_wp2_with fail
  go_ret
  exact ⟨L1.out.trans (b3.mono L1.out.size), .inr ⟨r3, rfl, HR3.out, HQ.out HS1.out.1 HS1.out.2 HS3.out.1 HS3.out.2⟩⟩

/-- A proof in memory of its own. -/
structure PrfV where
  g : Nat
  n : Nat
  c : Nat
  ps : List PeakV
  sg : Nat
  sn : Nat
  sc : Nat
  ss : List PeakV
def prfVal (s : PrfV) : Value := .agg #[.slice (some ⟨s.g, 0, none⟩) s.n s.c, .slice (some ⟨s.sg, 0, none⟩) s.sn s.sc]
structure CopyPrf (B : Nat) (L : LPrf) (v : PrfV) (w : World) : Prop where
  p : RowP w v.g L.pl
  ps : v.ps = L.pl
  pn : v.n = L.pn
  pc : v.c = v.n
  st : RowP w v.sg L.sl
  ss : v.ss = L.sl
  sn : v.sn = L.sn
  sc : v.sc = v.sn
  lo : B ≤ v.g
  up : v.g < v.sg
theorem CopyPrf.below {B : Nat} {L : LPrf} {s : PrfV} {w w' : World} (h : CopyPrf B L s w) (hb : Below w.heap.size w w') : CopyPrf B L s w' :=
  ⟨h.p.below hb h.p.lt, h.ps, h.pn, h.pc, h.st.below hb h.st.lt, h.ss, h.sn, h.sc, h.lo, h.up⟩
theorem rowP_other {w : World} {g g' : Nat} {l : List PeakV} (h : RowP w g l) (hg : g' ≠ g) (j : Nat) (v : Value) : RowP (w.setCell ⟨g', j, none⟩ v) g l := by
  unfold RowP RowF at h ⊢; simp [World.setCell, Array.getElem?_modify, h, hg]

set_option maxHeartbeats 2000000 in
set_option maxRecDepth 100000 in
theorem toProof1 (L : LPrf) (w w0 : World) (h0 : IsPrf w0 L) (hw : Below w0.heap.size w0 w) (hs : SmallPrf L) :
    Calls Tryd.prog 32 #[lprfVal L] w fun e w' => ∃ s, e = .returned (prfVal s) ∧ CopyPrf w.heap.size L s w' ∧ Below w.heap.size w w' := by
  have HB : Hid (∀ w', Below w.heap.size w w' → Calls Tryd.prog 20 #[.slice L.pa L.pn L.pc] w' fun e w'' => e = .returned (.slice (some ⟨w'.heap.size, 0, none⟩) L.pn L.pn) ∧ RowP w'' w'.heap.size L.pl ∧ Below w'.heap.size w' w'') := fun w' hb => toPeaks L.pa L.pn L.pc L.pl w' w0 h0.p (hw.trans (hb.mono hw.size)) hs.pn
  have HT : Hid (∀ w', Below w.heap.size w w' → Calls Tryd.prog 20 #[.slice L.sa L.sn L.sc] w' fun e w'' => e = .returned (.slice (some ⟨w'.heap.size, 0, none⟩) L.sn L.sn) ∧ RowP w'' w'.heap.size L.sl ∧ Below w'.heap.size w' w'') := fun w' hb => toPeaks L.sa L.sn L.sc L.sl w' w0 h0.s (hw.trans (hb.mono hw.size)) hs.sn
  have HQ : Hid (∀ (e : Ending) (w' : World) (s : PrfV), e = .returned (prfVal s) → CopyPrf w.heap.size L s w' → Below w.heap.size w w' → ∃ s, e = .returned (prfVal s) ∧ CopyPrf w.heap.size L s w' ∧ Below w.heap.size w w') := fun e w' s h1 h2 h3 => ⟨s, h1, h2, h3⟩
  clear h0 hw hs
  unfold lprfVal
  have A0 : Hid (CBk (((w.alloc (.cells #[.slice L.pa L.pn L.pc, .slice L.sa L.sn L.sc] 53)).alloc (.cells #[.slice none 0 0, .slice none 0 0] 47)).alloc (.cells #[.slice none 0 0, .slice none 0 0] 47)) w.heap.size 53 #[.slice L.pa L.pn L.pc, .slice L.sa L.sn L.sc]) := ((CBk.new w _ _).alloc _).alloc _
  have A1 : Hid (CBk (((w.alloc (.cells #[.slice L.pa L.pn L.pc, .slice L.sa L.sn L.sc] 53)).alloc (.cells #[.slice none 0 0, .slice none 0 0] 47)).alloc (.cells #[.slice none 0 0, .slice none 0 0] 47)) (w.heap.size + 1) 47 #[.slice none 0 0, .slice none 0 0]) := by
    have := (CBk.new (w.alloc (.cells #[.slice L.pa L.pn L.pc, .slice L.sa L.sn L.sc] 53)) 47 #[.slice none 0 0, .slice none 0 0]).alloc (.cells #[.slice none 0 0, .slice none 0 0] 47)
    rwa [show (w.alloc (.cells #[.slice L.pa L.pn L.pc, .slice L.sa L.sn L.sc] 53)).heap.size = w.heap.size + 1 from by simp] at this
  have A2 : Hid (CBk (((w.alloc (.cells #[.slice L.pa L.pn L.pc, .slice L.sa L.sn L.sc] 53)).alloc (.cells #[.slice none 0 0, .slice none 0 0] 47)).alloc (.cells #[.slice none 0 0, .slice none 0 0] 47)) (w.heap.size + 1 + 1) 47 #[.slice none 0 0, .slice none 0 0]) := by
    have := CBk.new ((w.alloc (.cells #[.slice L.pa L.pn L.pc, .slice L.sa L.sn L.sc] 53)).alloc (.cells #[.slice none 0 0, .slice none 0 0] 47)) 47 #[.slice none 0 0, .slice none 0 0]
    rwa [show ((w.alloc (.cells #[.slice L.pa L.pn L.pc, .slice L.sa L.sn L.sc] 53)).alloc (.cells #[.slice none 0 0, .slice none 0 0] 47)).heap.size = w.heap.size + 1 + 1 from by simp] at this
  have L0 : Hid (Below w.heap.size w (((w.alloc (.cells #[.slice L.pa L.pn L.pc, .slice L.sa L.sn L.sc] 53)).alloc (.cells #[.slice none 0 0, .slice none 0 0] 47)).alloc (.cells #[.slice none 0 0, .slice none 0 0] 47))) := (((Below.refl _ w).alloc (Nat.le_refl _) _).alloc (by simp) _).alloc (by simp; omega) _
  have HL3 : Hid (w.heap.size + 3 ≤ (((w.alloc (.cells #[.slice L.pa L.pn L.pc, .slice L.sa L.sn L.sc] 53)).alloc (.cells #[.slice none 0 0, .slice none 0 0] 47)).alloc (.cells #[.slice none 0 0, .slice none 0 0] 47)).heap.size) := by show _ ≤ _; simp
  go_enter Tryd.func32, Tryd.ntmps32
  go_wp2_with fail
  generalize (((w.alloc (.cells #[.slice L.pa L.pn L.pc, .slice L.sa L.sn L.sc] 53)).alloc (.cells #[.slice none 0 0, .slice none 0 0] 47)).alloc (.cells #[.slice none 0 0, .slice none 0 0] 47)) = W0 at A0 A1 A2 L0 HL3 ⊢
  refine (HB.out _ L0.out).mono ?_
  rintro e w1 ⟨rfl, C1, b1⟩
  obtain ⟨g0, hg0⟩ : ∃ g0, g0 = w.heap.size := ⟨_, rfl⟩
  obtain ⟨g1, hg1⟩ : ∃ g1, g1 = W0.heap.size := ⟨_, rfl⟩
  have HG1 : Hid (g0 + 3 ≤ g1) := by show _ ≤ _; have := HL3.out; omega
  have A01 : Hid (CBk w1 g0 53 #[.slice L.pa L.pn L.pc, .slice L.sa L.sn L.sc]) := by rw [hg0]; exact A0.out.call b1
  have A11 : Hid (CBk w1 (g0 + 1) 47 #[.slice none 0 0, .slice none 0 0]) := by rw [hg0]; exact A1.out.call b1
  have A21 : Hid (CBk w1 (g0 + 1 + 1) 47 #[.slice none 0 0, .slice none 0 0]) := by rw [hg0]; exact A2.out.call b1
  have L1 : Hid (Below w.heap.size w w1) := L0.out.trans (b1.mono L0.out.size)
  have HLw : Hid (g0 = w.heap.size) := hg0
  have C1' : Hid (RowP w1 g1 L.pl) := by rw [hg1]; exact C1
  rw [← hg0, ← hg1]
  clear A0 A1 A2 L0 b1 C1 HL3
  clear hg1
  clear hg0
  clear W0
  obtain ⟨c0, c1, _⟩ := A01.out.two
  obtain ⟨d0, d1, z0, z1⟩ := A21.out.two
  have S1 : Hid (CBk (w1.setCell ⟨g0 + 1 + 1, 0, none⟩ (.slice (some ⟨g1, 0, none⟩) L.pn L.pn)) (g0 + 1 + 1) 47 #[.slice (some ⟨g1, 0, none⟩) L.pn L.pn, .slice none 0 0]) := A21.out.set 0 _
  have T1 : Hid (CBk (w1.setCell ⟨g0 + 1 + 1, 0, none⟩ (.slice (some ⟨g1, 0, none⟩) L.pn L.pn)) (g0 + 1) 47 #[.slice none 0 0, .slice none 0 0]) := A11.out.other (by omega) _
  have U1 : Hid (CBk (w1.setCell ⟨g0 + 1 + 1, 0, none⟩ (.slice (some ⟨g1, 0, none⟩) L.pn L.pn)) g0 53 #[.slice L.pa L.pn L.pc, .slice L.sa L.sn L.sc]) := A01.out.other (by omega) _
  have C2 : Hid (RowP (w1.setCell ⟨g0 + 1 + 1, 0, none⟩ (.slice (some ⟨g1, 0, none⟩) L.pn L.pn)) g1 L.pl) := rowP_other C1'.out (by have := HG1.out; omega) _ _
  have LB1 : Hid (Below w.heap.size w (w1.setCell ⟨g0 + 1 + 1, 0, none⟩ (.slice (some ⟨g1, 0, none⟩) L.pn L.pn))) := L1.out.setCell (p := ⟨g0 + 1 + 1, 0, none⟩) (by show w.heap.size ≤ g0 + 1 + 1; have := HLw.out; omega) _
  have HZ1 : Hid ((w1.setCell ⟨g0 + 1 + 1, 0, none⟩ (.slice (some ⟨g1, 0, none⟩) L.pn L.pn)).heap.size = w1.heap.size ∧ g1 < w1.heap.size) := ⟨by simp [World.setCell], C1'.out.lt⟩
  clear A01 A11 A21 L1 C1'
  go_wp2_with fail
  generalize w1.setCell ⟨g0 + 1 + 1, 0, none⟩ (.slice (some ⟨g1, 0, none⟩) L.pn L.pn) = W1 at S1 T1 U1 C2 LB1 HZ1 ⊢
  refine (HT.out _ LB1.out).mono ?_
  rintro e w2 ⟨rfl, R2, b2⟩
  obtain ⟨g2, hg2⟩ : ∃ g2, g2 = W1.heap.size := ⟨_, rfl⟩
  have HG2 : Hid (g1 < g2) := by show _ < _; have := HZ1.out; omega
  have A12 : Hid (CBk w2 (g0 + 1) 47 #[.slice none 0 0, .slice none 0 0]) := T1.out.call b2
  have A22 : Hid (CBk w2 (g0 + 1 + 1) 47 #[.slice (some ⟨g1, 0, none⟩) L.pn L.pn, .slice none 0 0]) := S1.out.call b2
  have L2 : Hid (Below w.heap.size w w2) := LB1.out.trans (b2.mono LB1.out.size)
  have C2' : Hid (RowP w2 g1 L.pl) := C2.out.below b2 C2.out.lt
  have R2' : Hid (RowP w2 g2 L.sl) := by rw [hg2]; exact R2
  rw [← hg2]
  clear S1 T1 U1 C2 LB1 HZ1 b2 R2
  clear hg2
  clear c0 c1 d0 d1 z0 z1
  clear W1
  obtain ⟨d0, d1, z0, z1⟩ := A22.out.two
  obtain ⟨p0, p1, y0, y1⟩ := A12.out.two
  have S3 : Hid (CBk (w2.setCell ⟨g0 + 1 + 1, 1, none⟩ (.slice (some ⟨g2, 0, none⟩) L.sn L.sn)) (g0 + 1 + 1) 47 #[.slice (some ⟨g1, 0, none⟩) L.pn L.pn, .slice (some ⟨g2, 0, none⟩) L.sn L.sn]) := A22.out.set 1 _
  have T3 : Hid (CBk (((w2.setCell ⟨g0 + 1 + 1, 1, none⟩ (.slice (some ⟨g2, 0, none⟩) L.sn L.sn)).setCell ⟨g0 + 1, 0, none⟩ (.slice (some ⟨g1, 0, none⟩) L.pn L.pn)).setCell ⟨g0 + 1, 1, none⟩ (.slice (some ⟨g2, 0, none⟩) L.sn L.sn)) (g0 + 1) 47 #[.slice (some ⟨g1, 0, none⟩) L.pn L.pn, .slice (some ⟨g2, 0, none⟩) L.sn L.sn]) := ((A12.out.other (by omega) _).set 0 _).set 1 _
  have HF : Hid (CopyPrf w.heap.size L ⟨g1, L.pn, L.pn, L.pl, g2, L.sn, L.sn, L.sl⟩ (((w2.setCell ⟨g0 + 1 + 1, 1, none⟩ (.slice (some ⟨g2, 0, none⟩) L.sn L.sn)).setCell ⟨g0 + 1, 0, none⟩ (.slice (some ⟨g1, 0, none⟩) L.pn L.pn)).setCell ⟨g0 + 1, 1, none⟩ (.slice (some ⟨g2, 0, none⟩) L.sn L.sn))) := by
    have e1 := HG1.out
    have e2 := HG2.out
    have e4 := HLw.out
    exact ⟨rowP_other (rowP_other (rowP_other C2'.out (by omega) _ _) (by omega) _ _) (by omega) _ _, rfl, rfl, rfl, rowP_other (rowP_other (rowP_other R2'.out (by omega) _ _) (by omega) _ _) (by omega) _ _, rfl, rfl, rfl, by show w.heap.size ≤ g1; omega, e2⟩
  have LF : Hid (Below w.heap.size w (((w2.setCell ⟨g0 + 1 + 1, 1, none⟩ (.slice (some ⟨g2, 0, none⟩) L.sn L.sn)).setCell ⟨g0 + 1, 0, none⟩ (.slice (some ⟨g1, 0, none⟩) L.pn L.pn)).setCell ⟨g0 + 1, 1, none⟩ (.slice (some ⟨g2, 0, none⟩) L.sn L.sn))) := by
    have e4 := HLw.out
    exact ((L2.out.setCell (p := ⟨g0 + 1 + 1, 1, none⟩) (by show w.heap.size ≤ g0 + 1 + 1; omega) _).setCell (p := ⟨g0 + 1, 0, none⟩) (by show w.heap.size ≤ g0 + 1; omega) _).setCell (p := ⟨g0 + 1, 1, none⟩) (by show w.heap.size ≤ g0 + 1; omega) _
  obtain ⟨s0, s1, _⟩ := S3.out.two
  clear A12 A22 L2 C2' R2'
  go_wp2_with fail
  exact bodyPost_ret (results_cell_row (p := 2) rfl _ _ (g0 + 1) 47 #[.slice (some ⟨g1, 0, none⟩) L.pn L.pn, .slice (some ⟨g2, 0, none⟩) L.sn L.sn] (0, 0) _ rfl T3.out Tryd.underlying47 rfl (by kernel_rfl)) rfl (HQ.out _ _ _ rfl HF.out LF.out)

set_option maxHeartbeats 2000000 in
set_option maxRecDepth 100000 in
theorem eqProof1 (L : LPrf) (s t : PrfV) (B C : Nat) (w : World) (hs : SmallPrf L) (hp : L.pl.length = L.pn) (hq : L.sl.length = L.sn) (h1 : CopyPrf B L s w) (h2 : CopyPrf C L t w) :
    Calls Tryd.prog 27 #[prfVal s, prfVal t] w fun e w' => e = .returned (.bool true) ∧ Below w.heap.size w w' := by
  have e1 : t.n = s.n := by rw [h1.pn, h2.pn]
  have e2 : t.sn = s.sn := by rw [h1.sn, h2.sn]
  have hq1 := fun (w' : World) (hb : Below w.heap.size w w') => eqPeaks s.g t.g s.n s.c t.c L.pl w' ((h1.below hb).p.at 3 pEnc_len) ((h2.below hb).p.at 3 pEnc_len) (by rw [h1.pn, hp]) (by rw [h1.pn]; have := hs.pn; omega)
  have hq2 := fun (w' : World) (hb : Below w.heap.size w w') => eqPeaks s.sg t.sg s.sn s.sc t.sc L.sl w' ((h1.below hb).st.at 3 pEnc_len) ((h2.below hb).st.at 3 pEnc_len) (by rw [h1.sn, hq]) (by rw [h1.sn]; have := hs.sn; omega)
  unfold prfVal
  rw [e1, e2]
  clear h1 h2 hs e1 e2 hp hq
  have C0 : Hid (CBk ((w.alloc (.cells #[.slice (some ⟨s.g, 0, none⟩) s.n s.c, .slice (some ⟨s.sg, 0, none⟩) s.sn s.sc] 47)).alloc (.cells #[.slice (some ⟨t.g, 0, none⟩) s.n t.c, .slice (some ⟨t.sg, 0, none⟩) s.sn t.sc] 47)) w.heap.size 47 #[.slice (some ⟨s.g, 0, none⟩) s.n s.c, .slice (some ⟨s.sg, 0, none⟩) s.sn s.sc]) := (CBk.new w _ _).alloc _
  have D0 : Hid (CBk ((w.alloc (.cells #[.slice (some ⟨s.g, 0, none⟩) s.n s.c, .slice (some ⟨s.sg, 0, none⟩) s.sn s.sc] 47)).alloc (.cells #[.slice (some ⟨t.g, 0, none⟩) s.n t.c, .slice (some ⟨t.sg, 0, none⟩) s.sn t.sc] 47)) (w.heap.size + 1) 47 #[.slice (some ⟨t.g, 0, none⟩) s.n t.c, .slice (some ⟨t.sg, 0, none⟩) s.sn t.sc]) := by
    have := CBk.new (w.alloc (.cells #[.slice (some ⟨s.g, 0, none⟩) s.n s.c, .slice (some ⟨s.sg, 0, none⟩) s.sn s.sc] 47)) 47 #[.slice (some ⟨t.g, 0, none⟩) s.n t.c, .slice (some ⟨t.sg, 0, none⟩) s.sn t.sc]
    rwa [show (w.alloc (.cells #[.slice (some ⟨s.g, 0, none⟩) s.n s.c, .slice (some ⟨s.sg, 0, none⟩) s.sn s.sc] 47)).heap.size = w.heap.size + 1 from by simp] at this
  have L0 : Hid (Below w.heap.size w ((w.alloc (.cells #[.slice (some ⟨s.g, 0, none⟩) s.n s.c, .slice (some ⟨s.sg, 0, none⟩) s.sn s.sc] 47)).alloc (.cells #[.slice (some ⟨t.g, 0, none⟩) s.n t.c, .slice (some ⟨t.sg, 0, none⟩) s.sn t.sc] 47))) := ((Below.refl _ w).alloc (Nat.le_refl _) _).alloc (by simp) _
  go_enter Tryd.func27, Tryd.ntmps27
  go_wp2_with fail
  refine (hq1 _ L0.out).mono ?_
  rintro e w1 ⟨rfl, b1⟩
  have C1 : Hid (CBk w1 w.heap.size 47 #[.slice (some ⟨s.g, 0, none⟩) s.n s.c, .slice (some ⟨s.sg, 0, none⟩) s.sn s.sc]) := C0.out.call b1
  have D1 : Hid (CBk w1 (w.heap.size + 1) 47 #[.slice (some ⟨t.g, 0, none⟩) s.n t.c, .slice (some ⟨t.sg, 0, none⟩) s.sn t.sc]) := D0.out.call b1
  have L1 : Hid (Below w.heap.size w w1) := L0.out.trans (b1.mono L0.out.size)
  obtain ⟨c0, c1, _⟩ := C1.out.two
  obtain ⟨d0, d1, _⟩ := D1.out.two
  clear C0 D0 L0 b1 hq1
  go_wp2_with fail
  refine (hq2 _ L1.out).mono ?_
  rintro e w2 ⟨rfl, b2⟩
  go_wp2_with fail
  go_ret
  exact ⟨rfl, L1.out.trans (b2.mono L1.out.size)⟩

end Go.Proofs.YtjeldedjhlicmaaDoor

set_option linter.unusedVariables false
namespace Go.Proofs.YtjeldedjhlicmaaDoor
open Go.RowKit Go.Deep

theorem sameR (a b : ByteArray) : (a.toList == b.toList) = decide (a = b) := by
  rw [Bool.eq_iff_iff, beq_iff_eq, decide_eq_true_eq, ByteArray.toList_eq, ByteArray.toList_eq]
  constructor
  · intro h
    exact ByteArray.ext (by simpa using h)
  · intro h
    rw [h]
theorem walk_fine {h : HeadV} (hok : headOkB h = true) {a : Nat} {ss : List PeakV} : ∀ (i : Nat) (q : PeakV) (l : Int), walkTo (leafP h) a ss i = some (q, l) → Fine q l i
  | 0, q, l, hw => by
    simp only [walkTo, Option.some.injEq, Prod.mk.injEq] at hw
    obtain ⟨rfl, rfl⟩ := hw
    exact fine_leaf hok
  | i + 1, q, l, hw => by
    rw [walkTo] at hw
    cases hx : walkTo (leafP h) a ss i with
    | none => rw [hx] at hw; cases hw
    | some y =>
      obtain ⟨q0, l0⟩ := y
      have ih := walk_fine hok i q0 l0 hx
      rw [hx] at hw
      dsimp only at hw
      cases hb : (peakOkB (ss.getD i default) && decide ((ss.getD i default).count = q0.count)) with
      | false => rw [hb] at hw; cases hw
      | true =>
        rw [hb] at hw
        simp only [if_true] at hw
        split at hw
        · simp only [Option.some.injEq, Prod.mk.injEq] at hw
          obtain ⟨rfl, rfl⟩ := hw
          exact fine_left ih hb
        · simp only [Option.some.injEq, Prod.mk.injEq] at hw
          obtain ⟨rfl, rfl⟩ := hw
          exact fine_right ih hb
theorem fine_le {q : PeakV} {l : Int} {i : Nat} (h : Fine q l i) : l ≤ 256 := by
  have h1 := h.l1
  have h2 := h.wk
  have h3 := h.cnt
  have h4 := h.hi
  have h5 : (2 ^ i : Nat) ≤ 32 := by
    have : i = 0 ∨ i = 1 ∨ i = 2 ∨ i = 3 ∨ i = 4 ∨ i = 5 := by omega
    rcases this with rfl | rfl | rfl | rfl | rfl | rfl <;> decide
  omega
theorem climb_le {top : PeakV} {h : HeadV} (hok : headOkB h = true) (a : Nat) (ss : List PeakV) : -1 ≤ climbV top h a ss ∧ climbV top h a ss ≤ 256 := by
  unfold climbV
  cases hx : walkTo (leafP h) a ss ss.length with
  | none => dsimp only; omega
  | some y =>
    obtain ⟨q, l⟩ := y
    have hf := walk_fine hok _ q l hx
    have := fine_le hf
    have := hf.l0
    dsimp only
    split <;> omega
theorem wrk_in {ps : List PeakV} (h : rangeOkB ps = true) : ∀ k, k ≤ ps.length → 0 ≤ wrkTo ps k ∧ wrkTo ps k ≤ 160 * (k : Int)
  | 0, _ => by simp [wrkTo]
  | k + 1, hk => by
    have ih := wrk_in h k (by omega)
    have := rangeOk_at h k (by omega)
    rw [wrkTo]
    push_cast
    omega
theorem cnt_in {ps : List PeakV} (h : rangeOkB ps = true) : ∀ k, k ≤ ps.length → 0 ≤ cntTo ps k ∧ cntTo ps k ≤ 20 * (k : Int)
  | 0, _ => by simp [cntTo]
  | k + 1, hk => by
    have ih := cnt_in h k (by omega)
    have := rangeOk_at h k (by omega)
    rw [cntTo]
    push_cast
    omega
/-- A proof in memory. -/
structure PrfAt (s : PrfV) (w : World) : Prop where
  p : AtP w s.g s.ps
  pl : s.n = s.ps.length
  pm : s.n ≤ 1048576
  pc : s.n ≤ s.c
  t : AtP w s.sg s.ss
  tl : s.sn = s.ss.length
  tm : s.sn ≤ 1048576
theorem PrfAt.below {s : PrfV} {w w' : World} (h : PrfAt s w) (hb : Below w.heap.size w w') : PrfAt s w' :=
  ⟨h.p.below hb h.p.1, h.pl, h.pm, h.pc, h.t.below hb h.t.1, h.tl, h.tm⟩
theorem check_root {root : ByteArray} {h : HeadV} {a : Int} {ps ss : List PeakV} (hn : (⟨(rangeRoot ps).toArray⟩ : ByteArray) ≠ root) : checkV root h a ps ss = -1 := check_no (fun hh => hn hh.2.2.2.2)

set_option linter.unusedSimpArgs false in
set_option maxHeartbeats 8000000 in
set_option maxRecDepth 100000 in
theorem implRangeCheck (root : ByteArray) (h : HeadV) (a : Int) (s : PrfV) (w : World) (ham : a ≤ 9223372036854775807) (hS : PrfAt s w) (hK : RowG w shaK) (hP : TabP w) :
    Calls Tryd.prog 33 #[.string root, headVal h, .int .i64 a, prfVal s] w fun e w' => e = .returned (.int .i64 (checkV root h a s.ps s.ss)) ∧ Below w.heap.size w w' := by
  have HS : Hid (PrfAt s w) := hS
  have HK : Hid (RowG w shaK) := hK
  have HP : Hid (TabP w) := hP
  have HN : Hid (s.n = s.ps.length ∧ s.sn = s.ss.length) := ⟨hS.pl, hS.tl⟩
  have hpm := hS.pm
  have htm := hS.tm
  have hho := fun w' => implHeadOk h w'
  have hst := fun (w' : World) (hb : Below w.heap.size w w') => implStepsOk s.sg s.sn s.sc s.ss w' (HS.out.below hb).t hS.tl hS.tm
  have hro := fun (w' : World) (hb : Below w.heap.size w w') => implRangeOk s.g s.n s.c s.ps w' (HS.out.below hb).p hS.pl (by omega)
  have hrr := fun (w' : World) (hb : Below w.heap.size w w') => implRangeRoot s.g s.n s.c s.ps w' (HS.out.below hb).p hS.pl hS.pm (HK.out.below hb HK.out.lt) (TabP.below HP.out hb (Nat.le_refl _))
  have HNO : Hid (¬ (headOkB h = true ∧ 0 ≤ a ∧ s.ss.length ≤ 8 ∧ rangeOkB s.ps = true ∧ (⟨(rangeRoot s.ps).toArray⟩ : ByteArray) = root) → checkV root h a s.ps s.ss = -1) := fun hn => check_no hn
  have HST : Hid (stepsB s.ss = false → checkV root h a s.ps s.ss = -1) := fun hf => check_steps hf
  have HPN : Hid (placeP s.ps a = none → checkV root h a s.ps s.ss = -1) := fun hp => check_none hp
  have HPS : Hid (∀ k, headOkB h = true → 0 ≤ a → s.ss.length ≤ 8 → rangeOkB s.ps = true → (⟨(rangeRoot s.ps).toArray⟩ : ByteArray) = root → placeP s.ps a = some k → checkV root h a s.ps s.ss = if climbV (s.ps.getD k default) h (a - cntTo s.ps k).toNat s.ss < 0 then -1 else wrkTo s.ps k + climbV (s.ps.getD k default) h (a - cntTo s.ps k).toNat s.ss) := fun k h1 h2 h3 h4 h5 h6 => check_some ⟨h1, h2, h3, h4, h5⟩ h6
  have HCL : Hid (∀ (k a' : Nat) (w' : World), headOkB h = true → a' ≤ 20 → stepsB s.ss = true → Below w.heap.size w w' → Calls Tryd.prog 65 #[.agg #[.string (s.ps.getD k default).sum, .int .i64 (s.ps.getD k default).work, .int .i64 (s.ps.getD k default).count], .agg #[.string h.prev, .string h.root, .int .i64 h.time, .int .i64 h.diff, .int .i64 h.nonce], .int .i64 (a' : Int), .slice (some ⟨s.sg, 0, none⟩) s.sn s.sc] w' fun e w'' => e = .returned (.int .i64 (climbV (s.ps.getD k default) h a' s.ss)) ∧ Below w'.heap.size w' w'') := fun k a' w' h1 h2 h3 hb => implRangeClimb (s.ps.getD k default) h a' s.sg s.sn s.sc s.ss w' h1 h2 (HS.out.below hb).t HN.out.2 (by have := HN.out.2; have := steps_len h3; omega) (fun i hi => steps_at h3 i hi) (HK.out.below hb HK.out.lt) (TabP.below HP.out hb (Nat.le_refl _))
  have HCE : Hid (∀ k a', headOkB h = true → -1 ≤ climbV (s.ps.getD k default) h a' s.ss ∧ climbV (s.ps.getD k default) h a' s.ss ≤ 256) := fun k a' h1 => climb_le h1 a' s.ss
  generalize checkV root h a s.ps s.ss = R at HNO HST HPN HPS ⊢
  clear hS hK hP
  unfold headVal prfVal
  have A0 : Hid (CBk ((w.alloc (.cells #[.string h.prev, .string h.root, .int .i64 h.time, .int .i64 h.diff, .int .i64 h.nonce] 41)).alloc (.cells #[.slice (some ⟨s.g, 0, none⟩) s.n s.c, .slice (some ⟨s.sg, 0, none⟩) s.sn s.sc] 47)) w.heap.size 41 #[.string h.prev, .string h.root, .int .i64 h.time, .int .i64 h.diff, .int .i64 h.nonce]) := (CBk.new w _ _).alloc _
  have B0 : Hid (CBk ((w.alloc (.cells #[.string h.prev, .string h.root, .int .i64 h.time, .int .i64 h.diff, .int .i64 h.nonce] 41)).alloc (.cells #[.slice (some ⟨s.g, 0, none⟩) s.n s.c, .slice (some ⟨s.sg, 0, none⟩) s.sn s.sc] 47)) (w.heap.size + 1) 47 #[.slice (some ⟨s.g, 0, none⟩) s.n s.c, .slice (some ⟨s.sg, 0, none⟩) s.sn s.sc]) := by
    have := CBk.new (w.alloc (.cells #[.string h.prev, .string h.root, .int .i64 h.time, .int .i64 h.diff, .int .i64 h.nonce] 41)) 47 #[.slice (some ⟨s.g, 0, none⟩) s.n s.c, .slice (some ⟨s.sg, 0, none⟩) s.sn s.sc]
    rwa [show (w.alloc (.cells #[.string h.prev, .string h.root, .int .i64 h.time, .int .i64 h.diff, .int .i64 h.nonce] 41)).heap.size = w.heap.size + 1 from by simp] at this
  have L0 : Hid (Below w.heap.size w ((w.alloc (.cells #[.string h.prev, .string h.root, .int .i64 h.time, .int .i64 h.diff, .int .i64 h.nonce] 41)).alloc (.cells #[.slice (some ⟨s.g, 0, none⟩) s.n s.c, .slice (some ⟨s.sg, 0, none⟩) s.sn s.sc] 47))) := ((Below.refl _ w).alloc (Nat.le_refl _) _).alloc (by simp) _
  go_enter Tryd.func33, Tryd.ntmps33
  go_wp2_with fail
  generalize (w.alloc (.cells #[.string h.prev, .string h.root, .int .i64 h.time, .int .i64 h.diff, .int .i64 h.nonce] 41)).alloc (.cells #[.slice (some ⟨s.g, 0, none⟩) s.n s.c, .slice (some ⟨s.sg, 0, none⟩) s.sn s.sc] 47) = W0 at A0 B0 L0 ⊢
  obtain ⟨g0, hg0⟩ : ∃ g0, g0 = w.heap.size := ⟨_, rfl⟩
  rw [← hg0] at A0 B0 ⊢
  clear hg0
  have h0 := hho W0
  clear hho
  cases hok : headOkB h with
  | false =>
    have HV : Hid (R = -1) := HNO.out (by rw [hok]; intro hh; exact absurd hh.1 (by decide))
    rw [hok] at h0
    clear HNO HST HPN HPS HCL HCE hro hrr hst hok
    refine h0.mono ?_
    rintro e w1 ⟨rfl, b1⟩
    go_wp2_with fail
    go_ret
    exact ⟨by rw [HV.out]; rfl, L0.out.trans (b1.mono L0.out.size)⟩
  | true =>
  have HOK : Hid (headOkB h = true) := hok
  rw [hok] at h0
  clear hok
  refine h0.mono ?_
  rintro e w1 ⟨rfl, b1⟩
  have A1 : Hid (CBk w1 g0 41 #[.string h.prev, .string h.root, .int .i64 h.time, .int .i64 h.diff, .int .i64 h.nonce]) := A0.out.call b1
  have B1 : Hid (CBk w1 (g0 + 1) 47 #[.slice (some ⟨s.g, 0, none⟩) s.n s.c, .slice (some ⟨s.sg, 0, none⟩) s.sn s.sc]) := B0.out.call b1
  have L1 : Hid (Below w.heap.size w w1) := L0.out.trans (b1.mono L0.out.size)
  clear A0 B0 L0 b1 h0
  obtain ⟨p0, p1⟩ := B1.out.out2
  by_cases ha0 : a < 0
  · have HV : Hid (R = -1) := HNO.out (fun hh => absurd hh.2.1 (by omega))
    clear HNO HST HPN HPS HCL HCE hro hrr hst
    go_wp2_with fail
    go_ret
    exact ⟨by rw [HV.out]; rfl, L1.out⟩
  have hs0 := hst _ L1.out
  clear hst
  cases hsk : stepsB s.ss with
  | false =>
    have HV : Hid (R = -1) := HST.out hsk
    rw [hsk] at hs0
    clear HNO HST HPN HPS HCL HCE hro hrr hsk
    go_wp2_with fail
    refine hs0.mono ?_
    rintro e w2 ⟨rfl, b2⟩
    go_wp2_with fail
    go_ret
    exact ⟨by rw [HV.out]; rfl, L1.out.trans (b2.mono L1.out.size)⟩
  | true =>
  have H8S : Hid (stepsB s.ss = true) := hsk
  have H8 : Hid (s.ss.length ≤ 8) := steps_len hsk
  rw [hsk] at hs0
  clear hsk HST
  have HA0 : Hid (0 ≤ a) := by show _ ≤ _; omega
  go_wp2_with fail
  refine hs0.mono ?_
  rintro e w1a ⟨rfl, b1a⟩
  have A1a : Hid (CBk w1a g0 41 #[.string h.prev, .string h.root, .int .i64 h.time, .int .i64 h.diff, .int .i64 h.nonce]) := A1.out.call b1a
  have B1a : Hid (CBk w1a (g0 + 1) 47 #[.slice (some ⟨s.g, 0, none⟩) s.n s.c, .slice (some ⟨s.sg, 0, none⟩) s.sn s.sc]) := B1.out.call b1a
  have L1a : Hid (Below w.heap.size w w1a) := L1.out.trans (b1a.mono L1.out.size)
  clear A1 B1 L1 b1a hs0 p0 p1
  have A1 := A1a
  have B1 := B1a
  have L1 := L1a
  clear A1a B1a L1a
  obtain ⟨p0, p1⟩ := B1.out.out2
  have h0 := hro _ L1.out
  clear hro
  cases hrk : rangeOkB s.ps with
  | false =>
    have HV : Hid (R = -1) := HNO.out (fun hh => by have h1 := hh.2.2.2.1; rw [hrk] at h1; cases h1)
    rw [hrk] at h0
    clear HNO HPN HPS HCL HCE hrr hrk
    go_wp2_with fail
    refine h0.mono ?_
    rintro e w2 ⟨rfl, b2⟩
    go_wp2_with fail
    go_ret
    exact ⟨by rw [HV.out]; rfl, L1.out.trans (b2.mono L1.out.size)⟩
  | true =>
  have HRK : Hid (rangeOkB s.ps = true) := hrk
  rw [hrk] at h0
  clear hrk
  go_wp2_with fail
  refine h0.mono ?_
  rintro e w2 ⟨rfl, b2⟩
  have A2 : Hid (CBk w2 g0 41 #[.string h.prev, .string h.root, .int .i64 h.time, .int .i64 h.diff, .int .i64 h.nonce]) := A1.out.call b2
  have B2 : Hid (CBk w2 (g0 + 1) 47 #[.slice (some ⟨s.g, 0, none⟩) s.n s.c, .slice (some ⟨s.sg, 0, none⟩) s.sn s.sc]) := B1.out.call b2
  have L2 : Hid (Below w.heap.size w w2) := L1.out.trans (b2.mono L1.out.size)
  clear A1 B1 L1 b2 h0 p0 p1
  obtain ⟨p0, p1⟩ := B2.out.out2
  have h0 := hrr _ L2.out
  clear hrr
  go_wp2_with fail
  refine h0.mono ?_
  rintro e w3 ⟨rfl, b3⟩
  have A3 : Hid (CBk w3 g0 41 #[.string h.prev, .string h.root, .int .i64 h.time, .int .i64 h.diff, .int .i64 h.nonce]) := A2.out.call b3
  have B3 : Hid (CBk w3 (g0 + 1) 47 #[.slice (some ⟨s.g, 0, none⟩) s.n s.c, .slice (some ⟨s.sg, 0, none⟩) s.sn s.sc]) := B2.out.call b3
  have L3 : Hid (Below w.heap.size w w3) := L2.out.trans (b3.mono L2.out.size)
  clear A2 B2 L2 b3 h0 p0 p1
  by_cases hrt : ¬ (⟨(rangeRoot s.ps).toArray⟩ : ByteArray) = root
  · have HV : Hid (R = -1) := HNO.out (fun hh => hrt hh.2.2.2.2)
    have hrt1 : ((⟨(rangeRoot s.ps).toArray⟩ : ByteArray).toList == root.toList) = false := by rw [sameR, decide_eq_false hrt]
    generalize (⟨(rangeRoot s.ps).toArray⟩ : ByteArray) = rt at hrt1 ⊢
    clear HNO HPN HPS HCL HCE hrt
    go_wp2_with fail
    go_ret
    exact ⟨by rw [HV.out]; rfl, L3.out⟩
  replace hrt := Classical.not_not.1 hrt
  have HRT : Hid ((⟨(rangeRoot s.ps).toArray⟩ : ByteArray) = root) := hrt
  have hrt1 : ((⟨(rangeRoot s.ps).toArray⟩ : ByteArray).toList == root.toList) = true := by rw [sameR, decide_eq_true hrt]
  have HPS2 : Hid (∀ k, placeP s.ps a = some k → R = if climbV (s.ps.getD k default) h (a - cntTo s.ps k).toNat s.ss < 0 then -1 else wrkTo s.ps k + climbV (s.ps.getD k default) h (a - cntTo s.ps k).toNat s.ss) := fun k hp => HPS.out k HOK.out HA0.out H8.out HRK.out HRT.out hp
  generalize (⟨(rangeRoot s.ps).toArray⟩ : ByteArray) = rt at hrt1 ⊢
  clear HNO HPS hrt HRT
  obtain ⟨p0, p1⟩ := B3.out.out2
  go_wp2_with fail
  clear p0 p1 hrt1 ha0
  go_loopw [2, 9, 42] (fun av ah i wr => ∃ (k : Nat), k ≤ s.n ∧ i = .int .i64 (k : Int) ∧ av = .int .i64 (a - cntTo s.ps k) ∧ ah = .int .i64 (wrkTo s.ps k) ∧ Hid (CBk wr g0 41 #[.string h.prev, .string h.root, .int .i64 h.time, .int .i64 h.diff, .int .i64 h.nonce]) ∧ Hid (CBk wr (g0 + 1) 47 #[.slice (some ⟨s.g, 0, none⟩) s.n s.c, .slice (some ⟨s.sg, 0, none⟩) s.sn s.sc]) ∧ Hid (Below w.heap.size w wr) ∧ Hid (cntTo s.ps k ≤ a ∧ ∀ j, j < k → ¬ a < cntTo s.ps (j + 1))) (fun _ _ i _ => s.n - (intOf i).toNat)
  case atStart => exact ⟨0, by omega, rfl, by show Value.int .i64 a = Value.int .i64 (a - 0); rw [Int.sub_zero], rfl, A3, B3, L3, ⟨HA0.out, fun j hj => by omega⟩⟩
  case round =>
    clear A3 B3 L3
    obtain ⟨k, hk, rfl, rfl, rfl, AR, BR, LR, HQ⟩ := hrel
    by_cases hlt : k < s.n
    · have hkl : k < s.ps.length := by rw [← HN.out.1]; exact hlt
      have HAr : Hid (AtP wr s.g s.ps) := (HS.out.below LR.out).p
      have q0 := AtP.c0 HAr.out k hkl
      have q1 := AtP.c1 HAr.out k hkl
      have q2 := AtP.c2 HAr.out k hkl
      have lk : (k : Int) < (s.n : Int) := by omega
      have lk0 : (0 : Int) ≤ (k : Int) := by omega
      have wk : IntKind.i64.wrap ((k : Int) + 1) = (k : Int) + 1 := by rw [IntKind.wrap_i64]; omega
      have HK1 : Hid (k + 1 ≤ s.n) := hlt
      have hri := rangeOk_at HRK.out k hkl
      have hci := cnt_in HRK.out k (by omega)
      have hwi := wrk_in HRK.out k (by omega)
      have hl20 := range_len HRK.out
      have hcq := HQ.out.1
      have hce := HCE.out k (a - cntTo s.ps k).toNat HOK.out
      have hcl := HCL.out k (a - cntTo s.ps k).toNat
      have HPL : Hid (a < cntTo s.ps (k + 1) → R = if climbV (s.ps.getD k default) h (a - cntTo s.ps k).toNat s.ss < 0 then -1 else wrkTo s.ps k + climbV (s.ps.getD k default) h (a - cntTo s.ps k).toNat s.ss) := fun hh => HPS2.out k (place_at hkl hh HQ.out.2)
      have HC1 : Hid (cntTo s.ps (k + 1) = cntTo s.ps k + (s.ps.getD k default).count) := rfl
      have HW1 : Hid (wrkTo s.ps (k + 1) = wrkTo s.ps k + (s.ps.getD k default).work) := rfl
      have HQ2 : Hid (¬ a < cntTo s.ps (k + 1) → ∀ j, j < k + 1 → ¬ a < cntTo s.ps (j + 1)) := by
        intro hh j hj
        rcases Nat.lt_or_ge j k with h' | h'
        · exact HQ.out.2 j h'
        · obtain rfl : j = k := by omega
          exact hh
      clear HQ hkl HAr
      generalize climbV (s.ps.getD k default) h (a - cntTo s.ps k).toNat s.ss = cv at hce hcl HPL
      generalize s.ps.getD k default = p at q0 q1 q2 hri hcl HC1 HW1
      generalize cntTo s.ps k = ck at hci hcq hcl HC1 HPL ⊢
      generalize wrkTo s.ps k = wv at hwi HW1 HPL ⊢
      have CS : Hid (CBk (wr.alloc (.cells #[.string p.sum, .int .i64 p.work, .int .i64 p.count] 63)) wr.heap.size 63 #[.string p.sum, .int .i64 p.work, .int .i64 p.count]) := CBk.new wr _ _
      have LA : Hid (Below wr.heap.size wr (wr.alloc (.cells #[.string p.sum, .int .i64 p.work, .int .i64 p.count] 63))) := (Below.refl _ wr).alloc (Nat.le_refl _) _
      obtain ⟨gs, hgs⟩ : ∃ gs, gs = wr.heap.size := ⟨_, rfl⟩
      rw [← hgs] at CS
      by_cases hin : a - ck < p.count
      · have HV : Hid (R = if cv < 0 then -1 else wv + cv) := HPL.out (by rw [HC1.out]; omega)
        obtain ⟨a', ha'⟩ : ∃ a' : Nat, a - ck = (a' : Int) := ⟨(a - ck).toNat, by omega⟩
        rw [ha'] at hin hcl ⊢
        rw [Int.toNat_natCast] at hcl
        have hw3 : IntKind.i64.wrap (wv + cv) = wv + cv := by rw [IntKind.wrap_i64]; omega
        have HA' : Hid (a' ≤ 20) := by show _ ≤ _; omega
        clear HPL HQ2 HPS2 HPN HC1 HW1 ha' hcq hci
        have A1 : Hid (CBk (wr.alloc (.cells #[.string p.sum, .int .i64 p.work, .int .i64 p.count] 63)) g0 41 #[.string h.prev, .string h.root, .int .i64 h.time, .int .i64 h.diff, .int .i64 h.nonce]) := AR.out.call LA.out
        have B1 : Hid (CBk (wr.alloc (.cells #[.string p.sum, .int .i64 p.work, .int .i64 p.count] 63)) (g0 + 1) 47 #[.slice (some ⟨s.g, 0, none⟩) s.n s.c, .slice (some ⟨s.sg, 0, none⟩) s.sn s.sc]) := BR.out.call LA.out
        have L1 : Hid (Below w.heap.size w (wr.alloc (.cells #[.string p.sum, .int .i64 p.work, .int .i64 p.count] 63))) := LR.out.trans (LA.out.mono LR.out.size)
        obtain ⟨e0, e1, e2, e3, e4⟩ := A1.out.cells5
        obtain ⟨p0, p1⟩ := B1.out.out2
        go_wp2_with fail
        generalize wr.alloc (.cells #[.string p.sum, .int .i64 p.work, .int .i64 p.count] 63) = wa at CS LA A1 B1 L1 ⊢
        clear e0 e1 e2 e3 e4 p0 p1 AR BR LR LA q0 q1 q2
        have hc1 := hcl wa HOK.out HA'.out H8S.out L1.out
        clear hcl
        refine hc1.mono ?_
        rintro e w4 ⟨rfl, b4⟩
        have L4 : Hid (Below w.heap.size w w4) := L1.out.trans (b4.mono L1.out.size)
        by_cases hcv : cv < 0
        · have HV2 : Hid (R = -1) := by show _ = _; rw [HV.out, if_pos hcv]
          clear HV
          go_wp2_with fail
          go_ret
          exact ⟨by rw [HV2.out]; rfl, L4.out⟩
        · have HV2 : Hid (R = wv + cv) := by show _ = _; rw [HV.out, if_neg hcv]
          clear HV
          go_wp2_with fail
          go_ret
          exact ⟨by rw [HV2.out]; rfl, L4.out⟩
      · have HQ3 : Hid (∀ j, j < k + 1 → ¬ a < cntTo s.ps (j + 1)) := HQ2.out (by rw [HC1.out]; omega)
        have hw1 : IntKind.i64.wrap (a - ck - p.count) = a - ck - p.count := by rw [IntKind.wrap_i64]; omega
        have hw2 : IntKind.i64.wrap (wv + p.work) = wv + p.work := by rw [IntKind.wrap_i64]; omega
        have HCC : Hid (ck + p.count ≤ a) := by show _ ≤ _; omega
        clear HPL HQ2 hcl hce hri hci hwi hcq
        go_wp2_with fail
        generalize wr.alloc (.cells #[.string p.sum, .int .i64 p.work, .int .i64 p.count] 63) = wa at CS LA ⊢
        have A1 : Hid (CBk wa g0 41 #[.string h.prev, .string h.root, .int .i64 h.time, .int .i64 h.diff, .int .i64 h.nonce]) := AR.out.call LA.out
        have B1 : Hid (CBk wa (g0 + 1) 47 #[.slice (some ⟨s.g, 0, none⟩) s.n s.c, .slice (some ⟨s.sg, 0, none⟩) s.sn s.sc]) := BR.out.call LA.out
        have L1 : Hid (Below w.heap.size w wa) := LR.out.trans (LA.out.mono LR.out.size)
        clear AR BR LR LA q0 q1 q2 hgs
        go_roundw
        case rel => exact ⟨k + 1, HK1.out, by go_num, by rw [HC1.out]; show Value.int .i64 _ = Value.int .i64 _; congr 1; omega, by rw [HW1.out], A1, B1, L1, ⟨by rw [HC1.out]; exact HCC.out, HQ3.out⟩⟩
        case measure => have := HK1.out; simp [intOf]; omega
    · obtain rfl : k = s.n := by omega
      have HV : Hid (R = -1) := HPN.out (place_no (fun j hj => HQ.out.2 j (by rw [HN.out.1]; exact hj)))
      clear HPN HPS2 HQ HCL HCE
      go_wp2_with fail
      go_ret
      exact ⟨by rw [HV.out]; rfl, LR.out⟩

end Go.Proofs.YtjeldedjhlicmaaDoor

set_option linter.unusedVariables false
namespace Go.Proofs.YtjeldedjhlicmaaDoor
open Go.RowKit

theorem cells_new (w : World) (e : TypeId) (news : List Value) : ∀ j u, news[j]? = some u → (w.alloc (.cells news.toArray e)).cell? ((⟨w.heap.size, 0, none⟩ : Addr).add j) = some u := by
  intro j u hj
  have e1 : (⟨w.heap.size, 0, none⟩ : Addr).add j = ⟨w.heap.size, j, none⟩ := by unfold Addr.add; split <;> simp_all
  rw [e1, Lib.cell_of_heap (heap_alloc_new w _)]
  simpa using hj
theorem wp_appN {P : Program} {w : World} {ops : Array Oper} {rest : List Oper} {o : Oper} {a : Act} {Q : Exit → Act → World → Prop} (hgd : o.guard = none) (s x : Operand) (t : TypeId)
    (ho : o.op = .call { callee := .builtin .append, args := #[s, x], argTypes := #[t, t] })
    (base : Nat) (e : TypeId) (i : TypeInfo) (z : Value) (size bytes m : Nat) (ht : P.underlying t = some (.slice e)) (hi : P.info? e = some i) (hz : i.zero = some z)
    (hsize : i.size = size) (hby : i.bytes = bytes) (hzs : z.cells.size = size) (hs0 : 0 < size) (hm0 : 0 < m)
    (v : Value) (n : Nat) (xs : List Value) (hs : a.eval s = v) (hown : w.ownsRow base e size v n xs)
    (news : List Value) (hx : a.eval x = .slice (some ⟨w.heap.size, 0, none⟩) m m) (hl : news.length = m * size) (hu : ∀ u ∈ news, u.oneCell' = true)
    (h63 : n + m ≤ maxLen) (hbytes : (n + m) * bytes ≤ 140737488355328) (hbase : base ≤ w.heap.size)
    (h : ∀ g cap w', w'.ownsRow base e size (.slice (some ⟨g, 0, none⟩) (n + m) cap) (n + m) (xs ++ news) → Below base w w' → (∀ b, b < w.heap.size → v.ownBlock ≠ some b → w'.heap[b]? = w.heap[b]?) →
      wpList P ops Q rest (a.put o.dst (.slice (some ⟨g, 0, none⟩) (n + m) cap)) w') :
    wpList P ops Q (o :: rest) a (w.alloc (.cells news.toArray e)) := by
  refine wpList_append_own _ hgd s x t ho base e i z size bytes ht hi hz hsize hby hzs hs0 v n xs hs (hown.alloc _) ⟨w.heap.size, 0, none⟩ m m news hx hl ?_ hu h63 hbytes (by simp; omega) ?_
  · intro j u hj
    have e1 : (⟨w.heap.size, 0, none⟩ : Addr).add j = ⟨w.heap.size, j, none⟩ := by unfold Addr.add; split <;> simp_all
    rw [e1, Lib.cell_of_heap (heap_alloc_new w _)]
    simpa using hj
  · intro v' w' hown' hg _
    obtain ⟨g, cap, rfl⟩ : ∃ g cap, v' = .slice (some ⟨g, 0, none⟩) (n + m) cap := by
      rcases hown'.2 with ⟨_, h0⟩ | ⟨g, cap, cur, hv, _⟩
      · omega
      · exact ⟨g, cap, hv⟩
    refine h g cap w' hown' (((Below.refl base w).alloc hbase _).grown hg (by simp; omega) (fun k hk => (hown.lt k hk).1)) ?_
    intro b hb hne
    rw [hg.block b (by simp; omega) (fun e => hne e.symm)]
    exact Below.heap_alloc _ _ _ hb

end Go.Proofs.YtjeldedjhlicmaaDoor

set_option linter.unusedVariables false
namespace Go.Proofs.YtjeldedjhlicmaaDoor
open Go.RowKit

section frow
variable {α : Type}
def FRow (enc : α → List Value) (T : TypeId) (k B : Nat) (v : Value) (l : List α) (w : World) : Prop := (∃ g cap, v = .slice (some ⟨g, 0, none⟩) l.length cap) ∧ w.ownsRow B T k v l.length (l.flatMap enc)
theorem frow_new (enc : α → List Value) (T : TypeId) (k : Nat) (w : World) : FRow enc T k w.heap.size (.slice (some ⟨w.heap.size, 0, none⟩) 0 0) [] (w.alloc (.cells #[] T)) :=
  ⟨⟨_, _, rfl⟩, by simp, .inr ⟨w.heap.size, 0, #[], rfl, Nat.le_refl _, heap_alloc_new w _, Nat.le_refl _, Nat.zero_le _, by simp, by simp⟩⟩
theorem frow_cap (enc : α → List Value) (T : TypeId) (k n : Nat) (hk : ∀ a, (enc a).length = k) (a : α) (w : World) (hn : n ≤ maxLen) : FRow enc T k w.heap.size (.slice (some ⟨w.heap.size, 0, none⟩) 0 n) [] (w.alloc (.cells ((List.replicate n a).flatMap enc).toArray T)) :=
  ⟨⟨_, _, rfl⟩, by simp, .inr ⟨w.heap.size, n, _, rfl, Nat.le_refl _, heap_alloc_new w _, Nat.zero_le _, hn, by simp [flat_length k enc hk], by simp⟩⟩
theorem FRow.block {enc : α → List Value} {T : TypeId} {k B : Nat} {v : Value} {l : List α} {w : World} (h : FRow enc T k B v l w) : ∃ g cap cur, v = .slice (some ⟨g, 0, none⟩) l.length cap ∧ B ≤ g ∧ g < w.heap.size ∧ w.heap[g]? = some (.cells cur T (0, 0)) ∧ cur.toList.take (l.length * k) = l.flatMap enc ∧ l.length ≤ cap := by
  obtain ⟨⟨g, cap, rfl⟩, _, h2⟩ := h
  rcases h2 with ⟨h3, _⟩ | ⟨g', cap', cur, hv, hB, hg, hc, _, _, ht⟩
  · cases h3
  · simp only [Value.slice.injEq, Option.some.injEq, Addr.mk.injEq, and_true] at hv
    obtain ⟨rfl, _, rfl⟩ := hv
    refine ⟨g, cap, cur, rfl, hB, ?_, hg, ht, hc⟩
    rcases Nat.lt_or_ge g w.heap.size with h' | h'
    · exact h'
    · simp [Array.getElem?_eq_none h'] at hg
theorem FRow.at [Inhabited α] {enc : α → List Value} {T : TypeId} {k B g n cap : Nat} {l : List α} {w : World} (hk : ∀ a, (enc a).length = k) (h : FRow enc T k B (.slice (some ⟨g, 0, none⟩) n cap) l w) : AtF enc k w g l ∧ n = l.length ∧ B ≤ g ∧ n ≤ cap := by
  obtain ⟨g', cap', cur, hv, hB, hlt, hg, ht, hc⟩ := h.block
  simp only [Value.slice.injEq, Option.some.injEq, Addr.mk.injEq, and_true] at hv
  obtain ⟨rfl, rfl, rfl⟩ := hv
  refine ⟨⟨hlt, fun i j hi hj => ?_⟩, rfl, hB, hc⟩
  have hlt2 : i * k + j < l.length * k := by
    have : (i + 1) * k ≤ l.length * k := Nat.mul_le_mul_right k hi
    rw [Nat.add_mul] at this
    omega
  rw [Lib.cell_of_heap hg, ← flat_at k enc hk l i j hi hj, ← ht, List.getElem?_take_of_lt hlt2]
  simp
theorem FRow.keep {enc : α → List Value} {T : TypeId} {k B : Nat} {v : Value} {l : List α} {w w' : World} (h : FRow enc T k B v l w) (hk : ∀ g, B ≤ g → g < w.heap.size → w'.heap[g]? = w.heap[g]?) : FRow enc T k B v l w' := by
  obtain ⟨⟨g, cap, rfl⟩, h1, h2⟩ := h
  refine ⟨⟨g, cap, rfl⟩, h1, ?_⟩
  rcases h2 with ⟨h3, _⟩ | ⟨g', cap', cur, hv, hB, hg, h4⟩
  · cases h3
  · have hlt : g' < w.heap.size := by
      rcases Nat.lt_or_ge g' w.heap.size with h' | h'
      · exact h'
      · simp [Array.getElem?_eq_none h'] at hg
    exact .inr ⟨g', cap', cur, hv, hB, by rw [hk g' hB hlt]; exact hg, h4⟩
theorem FRow.below {enc : α → List Value} {T : TypeId} {k B : Nat} {v : Value} {l : List α} {w w' : World} (h : FRow enc T k B v l w) (hb : Below w.heap.size w w') : FRow enc T k B v l w' := h.keep (fun g _ hg => hb.block g hg)
theorem FRow.drew {enc : α → List Value} {T : TypeId} {k B : Nat} {v : Value} {l : List α} {w : World} (h : FRow enc T k B v l w) : FRow enc T k B v l w.drew := h
theorem FRow.mono {enc : α → List Value} {T : TypeId} {k B C : Nat} {v : Value} {l : List α} {w : World} (h : FRow enc T k B v l w) (hC : C ≤ B) : FRow enc T k C v l w := by
  obtain ⟨h0, h1, h2⟩ := h
  refine ⟨h0, h1, ?_⟩
  rcases h2 with h3 | ⟨g', cap', cur, hv, hB, h4⟩
  · exact .inl h3
  · exact .inr ⟨g', cap', cur, hv, Nat.le_trans hC hB, h4⟩
theorem FRow.of {enc : α → List Value} {T : TypeId} {k B g n cap : Nat} {l : List α} {w : World} (h : w.ownsRow B T k (.slice (some ⟨g, 0, none⟩) n cap) n (l.flatMap enc)) (hn : n = l.length) : FRow enc T k B (.slice (some ⟨g, 0, none⟩) n cap) l w := by
  subst hn
  exact ⟨⟨g, cap, rfl⟩, h⟩
theorem info3 {P : Program} {t : TypeId} {z : Value} {n b : Nat} (h : (P.info? t).map (fun i => (i.zero, i.size, i.bytes)) = some (some z, n, b)) : ∃ i, P.info? t = some i ∧ i.zero = some z ∧ i.size = n ∧ i.bytes = b := by
  cases hi : P.info? t with
  | none => rw [hi] at h; cases h
  | some i =>
    rw [hi] at h
    simp only [Option.map_some, Option.some.injEq, Prod.mk.injEq] at h
    exact ⟨i, rfl, h.1, h.2.1, h.2.2⟩
end frow

end Go.Proofs.YtjeldedjhlicmaaDoor

