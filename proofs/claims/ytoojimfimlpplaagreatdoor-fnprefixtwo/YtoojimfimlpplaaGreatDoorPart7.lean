/-
  Texts that the last part needs, joined.
-/
import Derived.Test.YtoojimfimlpplaaGreatDoorPart1
import Derived.Test.YtoojimfimlpplaaGreatDoorPart2
import Derived.Test.YtoojimfimlpplaaGreatDoorPart3
import Derived.Test.YtoojimfimlpplaaGreatDoorPart4
import Derived.Test.YtoojimfimlpplaaGreatDoorPart5
import Derived.Test.YtoojimfimlpplaaGreatDoorPart6
set_option linter.unusedVariables false
namespace Go.Proofs.YtoojimfimlpplaaGreatDoor
open Go.RowKit Go.Deep

/-- A peak of not too many heads, be they more than a chain has. -/
def Wide (p : PeakV) : Prop := isSum p.sum.data.toList = true ∧ 1 ≤ p.count ∧ p.count ≤ 1000 ∧ p.count ≤ p.work ∧ p.work ≤ p.count * 8
theorem wide_in {p : PeakV} (h : Wide p) : 1 ≤ p.count ∧ p.count ≤ 1000 ∧ p.count ≤ p.work ∧ p.work ≤ p.count * 8 := h.2
theorem wide_sum {p : PeakV} (h : Wide p) : isSum p.sum.data.toList = true := h.1
theorem wide_ok {p : PeakV} (h : peakOkB p = true) : Wide p := by
  have h1 := peakOk_in h
  exact ⟨peakOk_sum h, by omega, by omega, by omega, by omega⟩
theorem cnt_posW {ps : List PeakV} (h : ∀ i, i < ps.length → Wide (ps.getD i default)) : ∀ m, m ≤ ps.length → 0 ≤ cntTo ps m
  | 0, _ => Int.le_refl _
  | m + 1, hm => by
    have := cnt_posW h m (by omega)
    have := wide_in (h m (by omega))
    rw [cntTo]
    omega
/-- A wide peak, and not too many heads in it and ahead of it. -/
structure RoomW (ps : List PeakV) (m : Nat) (q : PeakV) : Prop where
  ok : Wide q
  few : q.count + cntTo ps m ≤ 1000
theorem RoomW.step {ps : List PeakV} {m : Nat} {q : PeakV} (hk : ∀ i, i < ps.length → Wide (ps.getD i default)) (hm : m < ps.length) (h : RoomW ps (m + 1) q) (he : (ps.getD m default).count = q.count) : RoomW ps m (bothP (ps.getD m default) q) := by
  have h1 := wide_in (hk m hm)
  have h2 := wide_in h.ok
  have h3 := h.few
  have h4 := cnt_posW hk m (by omega)
  rw [cntTo] at h3
  refine ⟨⟨isSum_both _ _, ?_⟩, ?_⟩
  · show 1 ≤ (ps.getD m default).count + q.count ∧ (ps.getD m default).count + q.count ≤ 1000 ∧ (ps.getD m default).count + q.count ≤ (ps.getD m default).work + q.work ∧ (ps.getD m default).work + q.work ≤ ((ps.getD m default).count + q.count) * 8
    omega
  · show (ps.getD m default).count + q.count + cntTo ps m ≤ 1000
    omega
theorem peakB_sizeW {p : PeakV} (h : Wide p) : (peakB p).size ≤ 100 := by
  have h1 := sum_size (wide_sum h)
  have h2 := wide_in h
  have hw : (Lib.decDigits p.work.toNat).length ≤ 19 := decLen (by omega)
  have hc : (Lib.decDigits p.count.toNat).length ≤ 19 := decLen (by omega)
  have e1 : (⟨(Lib.decDigits p.work.toNat).toArray⟩ : ByteArray).size = (Lib.decDigits p.work.toNat).length := by show (Lib.decDigits p.work.toNat).toArray.size = _; simp
  have e2 : (⟨(Lib.decDigits p.count.toNat).toArray⟩ : ByteArray).size = (Lib.decDigits p.count.toNat).length := by show (Lib.decDigits p.count.toNat).toArray.size = _; simp
  have e32 : (⟨#[32]⟩ : ByteArray).size = 1 := rfl
  unfold peakB
  rw [ByteArray.size_append, ByteArray.size_append, ByteArray.size_append, ByteArray.size_append, h1, e1, e2, e32]
  omega
theorem bothX_sizeW {a b : PeakV} (ha : Wide a) (hb : Wide b) : (bothX a b).size ≤ 1073741824 := by
  have h1 := peakB_sizeW ha
  have h2 := peakB_sizeW hb
  have e1 : (⟨#[112, 101, 97, 107, 32]⟩ : ByteArray).size = 5 := rfl
  have e2 : (⟨#[32]⟩ : ByteArray).size = 1 := rfl
  unfold bothX
  rw [ByteArray.size_append, ByteArray.size_append, ByteArray.size_append, e1, e2]
  omega

set_option maxHeartbeats 1000000 in
set_option maxRecDepth 100000 in
theorem implPeakPutW (p : PeakV) (w : World) (hok : Wide p) (hP : TabP w) :
    Calls Tryz.prog 26 #[.agg #[.string p.sum, .int .i64 p.work, .int .i64 p.count], .string ⟨#[32]⟩] w fun e w' => e = .returned (.string (peakB p)) ∧ Below w.heap.size w w' := by
  have h2 := wide_in hok
  obtain ⟨s, wk, ct⟩ := p
  dsimp only at h2 ⊢
  obtain ⟨a, rfl⟩ : ∃ a : Nat, wk = (a : Int) := ⟨wk.toNat, by omega⟩
  obtain ⟨b, rfl⟩ : ∃ b : Nat, ct = (b : Int) := ⟨ct.toNat, by omega⟩
  have HV : Hid (peakB ⟨s, (a : Int), (b : Int)⟩ = s ++ ⟨#[32]⟩ ++ ⟨(Lib.decDigits a).toArray⟩ ++ ⟨#[32]⟩ ++ ⟨(Lib.decDigits b).toArray⟩) := rfl
  have HP : Hid (∀ w', Below w.heap.size w w' → TabP w') := fun w' hb => TabP.below hP hb (Nat.le_refl _)
  have hia := fun w' hp => implItoa a w' (by omega) hp
  have hib := fun w' hp => implItoa b w' (by omega) hp
  have hps := sum_size (wide_sum hok)
  dsimp only at hps
  have hal : (Lib.decDigits a).length ≤ 19 := decLen (by omega)
  have hbl : (Lib.decDigits b).length ≤ 19 := decLen (by omega)
  generalize peakB ⟨s, (a : Int), (b : Int)⟩ = R at HV ⊢
  generalize Lib.decDigits a = da at hia HV hal
  generalize Lib.decDigits b = db at hib HV hbl
  have q1 : ¬ 9223372036854775807 < 17 + da.length := by omega
  have q2 : ¬ 9223372036854775807 < 17 + da.length + 1 := by omega
  have q3 : ¬ 9223372036854775807 < 17 + da.length + 1 + db.length := by omega
  have S0 : PSt w _ w.heap.size s (a : Int) (b : Int) := PSt.new w 31 s (a : Int) (b : Int)
  clear hP hok h2
  go_enter Tryz.func26, Tryz.ntmps26
  go_wp2_with fail
  go_region_held3 (fun w' => w'.cell? ⟨w.heap.size, 0, none⟩ = some (.string s) ∧ w'.cell? ⟨w.heap.size, 1, none⟩ = some (.int .i64 (a : Int)) ∧ w'.cell? ⟨w.heap.size, 2, none⟩ = some (.int .i64 (b : Int)))
    (first | (with_reducible first | exact S2.out | exact S1.out | exact S0.out | exact S0.drew.out) | go_keep)
    (first
      | (go_at_call 43; refine (hib _ (HP.out _ S1.2.1)).mono ?_; rintro e w2 ⟨rfl, b2⟩; have S2 : PSt w w2 w.heap.size s (a : Int) (b : Int) := S1.call b2)
      | (go_at_call 43; refine (hia _ (HP.out _ S0.drew.2.1)).mono ?_; rintro e w1 ⟨rfl, b1⟩; have S1 : PSt w w1 w.heap.size s (a : Int) (b : Int) := S0.drew.call b1))
  go_wp2_with fail
  go_ret
  exact ⟨by rw [HV.out]; rfl, S2.2.1⟩

set_option maxHeartbeats 4000000 in
set_option maxRecDepth 100000 in
theorem implPeakBothW (a b : PeakV) (w : World) (ha : Wide a) (hb : Wide b) (hK : RowG w shaK) (hP : TabP w) :
    Calls Tryz.prog 36 #[peakVal a, peakVal b] w fun e w' => e = .returned (peakVal (bothP a b)) ∧ Below w.heap.size w w' := by
  have HK : Hid (RowG w shaK) := hK
  have HP : Hid (TabP w) := hP
  have hpa := fun w' hp => implPeakPutW a w' ha hp
  have hpb := fun w' hp => implPeakPutW b w' hb hp
  have hsa := peakB_sizeW ha
  have hsb := peakB_sizeW hb
  have hia := wide_in ha
  have hib := wide_in hb
  have hsz := bothX_sizeW ha hb
  have HXE : Hid (((⟨#[112, 101, 97, 107, 32]⟩ : ByteArray) ++ peakB a) ++ (⟨#[32]⟩ : ByteArray) ++ peakB b = bothX a b) := rfl
  have hw1 : IntKind.i64.wrap (a.work + b.work) = a.work + b.work := by rw [IntKind.wrap_i64]; omega
  have hw2 : IntKind.i64.wrap (a.count + b.count) = a.count + b.count := by rw [IntKind.wrap_i64]; omega
  unfold peakVal bothP
  dsimp only
  generalize peakB a = pa at hpa hsa HXE
  generalize peakB b = pb at hpb hsb HXE
  generalize bothX a b = X at hsz HXE ⊢
  have q1 : ¬ 9223372036854775807 < 5 + pa.size := by omega
  have q2 : ¬ 9223372036854775807 < 5 + pa.size + 1 := by omega
  have q3 : ¬ 9223372036854775807 < 5 + pa.size + 1 + pb.size := by omega
  have A0 : Hid (CBk (((w.alloc (.cells #[.string a.sum, .int .i64 a.work, .int .i64 a.count] 31)).alloc (.cells #[.string b.sum, .int .i64 b.work, .int .i64 b.count] 31)).alloc (.cells #[.string ⟨#[]⟩, .int .i64 0, .int .i64 0] 31)) w.heap.size 31 #[.string a.sum, .int .i64 a.work, .int .i64 a.count]) := ((CBk.new w _ _).alloc _).alloc _
  have A1 : Hid (CBk (((w.alloc (.cells #[.string a.sum, .int .i64 a.work, .int .i64 a.count] 31)).alloc (.cells #[.string b.sum, .int .i64 b.work, .int .i64 b.count] 31)).alloc (.cells #[.string ⟨#[]⟩, .int .i64 0, .int .i64 0] 31)) (w.heap.size + 1) 31 #[.string b.sum, .int .i64 b.work, .int .i64 b.count]) := by
    have := (CBk.new (w.alloc (.cells #[.string a.sum, .int .i64 a.work, .int .i64 a.count] 31)) 31 #[.string b.sum, .int .i64 b.work, .int .i64 b.count]).alloc (.cells #[.string ⟨#[]⟩, .int .i64 0, .int .i64 0] 31)
    rwa [show (w.alloc (.cells #[.string a.sum, .int .i64 a.work, .int .i64 a.count] 31)).heap.size = w.heap.size + 1 from by simp] at this
  have A2 : Hid (CBk (((w.alloc (.cells #[.string a.sum, .int .i64 a.work, .int .i64 a.count] 31)).alloc (.cells #[.string b.sum, .int .i64 b.work, .int .i64 b.count] 31)).alloc (.cells #[.string ⟨#[]⟩, .int .i64 0, .int .i64 0] 31)) (w.heap.size + 1 + 1) 31 #[.string ⟨#[]⟩, .int .i64 0, .int .i64 0]) := by
    have := CBk.new ((w.alloc (.cells #[.string a.sum, .int .i64 a.work, .int .i64 a.count] 31)).alloc (.cells #[.string b.sum, .int .i64 b.work, .int .i64 b.count] 31)) 31 #[.string ⟨#[]⟩, .int .i64 0, .int .i64 0]
    rwa [show ((w.alloc (.cells #[.string a.sum, .int .i64 a.work, .int .i64 a.count] 31)).alloc (.cells #[.string b.sum, .int .i64 b.work, .int .i64 b.count] 31)).heap.size = w.heap.size + 1 + 1 from by simp] at this
  have L0 : Hid (Below w.heap.size w (((w.alloc (.cells #[.string a.sum, .int .i64 a.work, .int .i64 a.count] 31)).alloc (.cells #[.string b.sum, .int .i64 b.work, .int .i64 b.count] 31)).alloc (.cells #[.string ⟨#[]⟩, .int .i64 0, .int .i64 0] 31))) := (((Below.refl _ w).alloc (Nat.le_refl _) _).alloc (by simp) _).alloc (by simp; omega) _
  clear ha hb hK hP hia hib
  go_enter Tryz.func36, Tryz.ntmps36
  go_wp2_with fail
  generalize ((w.alloc (.cells #[.string a.sum, .int .i64 a.work, .int .i64 a.count] 31)).alloc (.cells #[.string b.sum, .int .i64 b.work, .int .i64 b.count] 31)).alloc (.cells #[.string ⟨#[]⟩, .int .i64 0, .int .i64 0] 31) = W0 at A0 A1 A2 L0 ⊢
  obtain ⟨g0, hg0⟩ : ∃ g0, g0 = w.heap.size := ⟨_, rfl⟩
  have HG : Hid (g0 = w.heap.size) := hg0
  rw [← hg0] at A0 A1 A2 ⊢
  clear hg0
  have hne : ¬ g0 = g0 + 1 + 1 := by omega
  have hne2 : ¬ g0 + 1 + 1 = g0 := by omega
  have hne3 : ¬ g0 + 1 = g0 + 1 + 1 := by omega
  have hne4 : ¬ g0 + 1 + 1 = g0 + 1 := by omega
  obtain ⟨c0, c1, c2⟩ := A0.out.drew2.cells3
  obtain ⟨m0, m1, m2⟩ := A1.out.drew2.cells3
  go_region_held3 (fun w' => (w'.cell? ⟨g0, 0, none⟩ = some (.string a.sum) ∧ w'.cell? ⟨g0, 1, none⟩ = some (.int .i64 a.work) ∧ w'.cell? ⟨g0, 2, none⟩ = some (.int .i64 a.count)) ∧ (w'.cell? ⟨g0 + 1, 0, none⟩ = some (.string b.sum) ∧ w'.cell? ⟨g0 + 1, 1, none⟩ = some (.int .i64 b.work) ∧ w'.cell? ⟨g0 + 1, 2, none⟩ = some (.int .i64 b.count)))
    (first | (with_reducible first | exact ⟨A0.out.drew2.cells3, A1.out.drew2.cells3⟩ | exact ⟨B0.out.cells3, B1.out.cells3⟩ | exact ⟨C0.out.cells3, C1.out.cells3⟩ | exact ⟨D0.out.cells3, D1.out.cells3⟩) | go_keep)
    (first
      | (go_at_call 26; have q9 := B0.out.cells3; clear q9; refine (hpb _ (TabP.below HP.out L1.out (Nat.le_refl _))).mono ?_; rintro e w2 ⟨rfl, b2⟩; have C0 : Hid (CBk w2 g0 31 #[.string a.sum, .int .i64 a.work, .int .i64 a.count]) := B0.out.call b2; have C1 : Hid (CBk w2 (g0 + 1) 31 #[.string b.sum, .int .i64 b.work, .int .i64 b.count]) := B1.out.call b2; have C2 : Hid (CBk w2 (g0 + 1 + 1) 31 #[.string ⟨#[]⟩, .int .i64 0, .int .i64 0]) := B2.out.call b2; have L2 : Hid (Below w.heap.size w w2) := L1.out.trans (b2.mono L1.out.size))
      | (go_at_call 26; refine (hpa _ (TabP.below HP.out L0.out.drew (Nat.le_refl _))).mono ?_; rintro e w1 ⟨rfl, b1⟩; have B0 : Hid (CBk w1 g0 31 #[.string a.sum, .int .i64 a.work, .int .i64 a.count]) := A0.out.drew2.call b1; have B1 : Hid (CBk w1 (g0 + 1) 31 #[.string b.sum, .int .i64 b.work, .int .i64 b.count]) := A1.out.drew2.call b1; have B2 : Hid (CBk w1 (g0 + 1 + 1) 31 #[.string ⟨#[]⟩, .int .i64 0, .int .i64 0]) := A2.out.drew2.call b1; have L1 : Hid (Below w.heap.size w w1) := L0.out.drew.trans (b1.mono L0.out.size))
      | (go_at_call 27; rw [HXE.out]; refine (implSum _ _ hsz (HK.out.below L2.out HK.out.lt)).mono ?_; rintro e w3 ⟨rfl, b3⟩; have D0 : Hid (CBk w3 g0 31 #[.string a.sum, .int .i64 a.work, .int .i64 a.count]) := C0.out.call b3; have D1 : Hid (CBk w3 (g0 + 1) 31 #[.string b.sum, .int .i64 b.work, .int .i64 b.count]) := C1.out.call b3; have D2 : Hid (CBk w3 (g0 + 1 + 1) 31 #[.string ⟨#[]⟩, .int .i64 0, .int .i64 0]) := C2.out.call b3; have L3 : Hid (Below w.heap.size w w3) := L2.out.trans (b3.mono L2.out.size)))
  obtain ⟨p0, p1, p2⟩ := D0.out.cells3
  obtain ⟨r0, r1, r2⟩ := D1.out.cells3
  obtain ⟨e0, e1, e2⟩ := D2.out.cells3
  obtain ⟨k0, k1, k2⟩ := D2.out.free3
  clear c0 c1 c2 m0 m1 m2
  have T3 : Hid (CBk (((w3.setCell ⟨g0 + 1 + 1, 0, none⟩ (.string ⟨(sumB X.data.toList).toArray⟩)).setCell ⟨g0 + 1 + 1, 1, none⟩ (.int .i64 (a.work + b.work))).setCell ⟨g0 + 1 + 1, 2, none⟩ (.int .i64 (a.count + b.count))) (g0 + 1 + 1) 31 #[.string ⟨(sumB X.data.toList).toArray⟩, .int .i64 (a.work + b.work), .int .i64 (a.count + b.count)]) := D2.out.set3
  have LF : Hid (Below w.heap.size w (((w3.setCell ⟨g0 + 1 + 1, 0, none⟩ (.string ⟨(sumB X.data.toList).toArray⟩)).setCell ⟨g0 + 1 + 1, 1, none⟩ (.int .i64 (a.work + b.work))).setCell ⟨g0 + 1 + 1, 2, none⟩ (.int .i64 (a.count + b.count)))) := by
    have e4 := HG.out
    exact ((L3.out.setCell (p := ⟨g0 + 1 + 1, 0, none⟩) (by show w.heap.size ≤ g0 + 1 + 1; omega) _).setCell (p := ⟨g0 + 1 + 1, 1, none⟩) (by show w.heap.size ≤ g0 + 1 + 1; omega) _).setCell (p := ⟨g0 + 1 + 1, 2, none⟩) (by show w.heap.size ≤ g0 + 1 + 1; omega) _
  go_wp2_with fail
  exact bodyPost_ret (results_cell_row (p := 4) rfl _ _ (g0 + 1 + 1) 31 #[.string ⟨(sumB X.data.toList).toArray⟩, .int .i64 (a.work + b.work), .int .i64 (a.count + b.count)] (0, 0) _ rfl T3.out Tryz.underlying31 rfl (by kernel_rfl)) rfl ⟨rfl, LF.out⟩

set_option maxHeartbeats 8000000 in
set_option maxRecDepth 100000 in
theorem implPushW (w0 : World) (g : Nat) (ps : List PeakV) (p : PeakV) (w : World) (hs : Stk w0 w g ps) (hm : ps.length ≤ 1048576) (hk : ∀ i, i < ps.length → Wide (ps.getD i default)) (hr : RoomW ps ps.length p) (hK : RowG w0 shaK) (hP : TabP w0) :
    Calls Tryz.prog 21 #[.pointer (some ⟨g, 0, none⟩), peakVal p] w fun e w' => PushRes w0 g (addP ps p) e w' := by
  obtain ⟨r, c, n, h0⟩ := hs
  obtain ⟨i0, hi, hz0, hz1, hz2⟩ := info3 infoPeak
  have HN : Hid (n = ps.length) := h0.len.symm
  have HM0 : Hid (n ≤ 1048576) := by show _ ≤ _; have := h0.len; omega
  have HK : Hid (RowG w0 shaK) := hK
  have HP : Hid (TabP w0) := hP
  have HKP : Hid (∀ i, i < ps.length → Wide (ps.getD i default)) := hk
  have HR0 : Hid (RoomW ps n p) := by show RoomW _ _ _; rw [HN.out]; exact hr
  have HAD : Hid (addP (ps.take n) p = addP ps p) := by show _ = _; rw [HN.out, List.take_length]
  generalize addP ps p = A at HAD ⊢
  unfold peakVal
  have PZ : Hid (PushW w0 (w.alloc (.cells #[.string p.sum, .int .i64 p.work, .int .i64 p.count] 31)) g w.heap.size r c n ps p) := by
    have hb : Below w.heap.size w (w.alloc (.cells #[.string p.sum, .int .i64 p.work, .int .i64 p.count] 31)) := (Below.refl _ w).alloc (Nat.le_refl _) _
    exact ⟨h0.call hb, CBk.new w _ _, h0.s.lt, h0.at.1.1⟩
  have P0 : Hid (PushW w0 (w.alloc (.cells #[.string p.sum, .int .i64 p.work, .int .i64 p.count] 31)) g w.heap.size r c n (ps.take n) p) := by
    have e : ps.take n = ps := by rw [HN.out, List.take_length]
    rw [e]
    exact PZ.out
  clear hm hk hr hK hP h0 PZ
  obtain ⟨⟨a0, a1, a2⟩, x0⟩ := P0.out.two
  have hw0 : IntKind.i64.wrap ((n : Int) - 1) = (n : Int) - 1 := by have := HM0.out; rw [IntKind.wrap_i64]; omega
  go_enter Tryz.func21, Tryz.ntmps21
  go_wp2_with fail
  clear a0 a1 a2 x0 hw0
  generalize w.alloc (.cells #[.string p.sum, .int .i64 p.work, .int .i64 p.count] 31) = W0 at P0 ⊢
  obtain ⟨g3, hg3⟩ : ∃ g3, g3 = w.heap.size := ⟨_, rfl⟩
  rw [← hg3] at P0 ⊢
  clear hg3
  clear w
  go_loopw [4] (fun last wr => ∃ (m : Nat) (q : PeakV), m ≤ n ∧ last = .int .i64 ((m : Int) - 1) ∧ Hid (PushW w0 wr g g3 r c m (ps.take m) q) ∧ Hid (addP (ps.take m) q = A) ∧ Hid (RoomW ps m q)) (fun last _ => (intOf last + 1).toNat)
  case atStart => exact ⟨n, p, Nat.le_refl _, rfl, P0, HAD, HR0⟩
  case round =>
    clear P0 HAD HR0
    obtain ⟨m, q, hmn, rfl, PW, HAD, HRM⟩ := hrel
    cases m with
    | zero =>
      have e0 : ((0 : Nat) : Int) - 1 = -1 := rfl
      rw [e0]
      have hd0 : decide ((0 : Int) ≤ -1) = false := by decide
      have HRV : Hid (A = ps.take 0 ++ [q]) := by show _ = _; rw [← HAD.out, List.take_zero, addP_nil]; rfl
      obtain ⟨M, hM⟩ : ∃ M, M = 0 := ⟨_, rfl⟩
      have HM : Hid (M = 0) := hM
      rw [← hM] at PW HRV
      clear hM hmn HAD HRM
      obtain ⟨⟨a0, a1, a2⟩, d0, d1, d2⟩ := PW.out.two
      go_wp2_with fail
      go_big_region
      have PW1 : Hid (PushW w0 wr.drew g g3 r c M (ps.take M) q) := PW.out.drew
      have HLA : Hid ((ps.take M).length = M) := PW1.out.k.len
      have hx1 : M + 1 ≤ maxLen := by have h1 := HLA.out; rw [List.length_take] at h1; have h2 := HM0.out; have h3 := HN.out; unfold maxLen; omega
      have hx2 : (M + 1) * 32 ≤ 140737488355328 := by have h1 := HLA.out; rw [List.length_take] at h1; have h2 := HM0.out; have h3 := HN.out; omega
      have HRD : Hid (wr.drew.ownsRow w0.heap.size 31 3 (.slice (some ⟨r, 0, none⟩) M c) M ((ps.take M).flatMap pEnc)) := PW1.out.k.row
      have HZ : Hid (w0.heap.size ≤ wr.drew.heap.size ∧ g3 < wr.drew.heap.size ∧ g < g3 ∧ r < g3 ∧ r ≠ g ∧ w0.heap.size ≤ g ∧ w0.heap.size ≤ r) := ⟨PW1.out.k.b.size, PW1.out.o.lt, PW1.out.n1, PW1.out.n2, PW1.out.k.rg, PW1.out.k.lo, PW1.out.k.at.2.2.1⟩
      have PX : Hid (PushW w0 wr.drew.drew g g3 r c M (ps.take M) q) := PW1.out.drew
      have PA : Hid (PushW w0 (wr.drew.drew.alloc (.cells (pEnc q).toArray 31)) g g3 r c M (ps.take M) q) := PX.out.call ((Below.refl _ _).alloc (Nat.le_refl _) _)
      have hu := pEnc_one q
      have HCN : Hid (∀ j u, (pEnc q)[j]? = some u → (wr.drew.drew.alloc (.cells (pEnc q).toArray 31)).cell? ((⟨wr.drew.heap.size, 0, none⟩ : Addr).add j) = some u) := cells_new wr.drew.drew 31 (pEnc q)
      have HFd : Hid ((wr.drew.drew.alloc (.cells (pEnc q).toArray 31)).ownsRow w0.heap.size 31 3 (.slice (some ⟨r, 0, none⟩) M c) M ((ps.take M).flatMap pEnc)) := PA.out.k.row
      have HBZ : Hid (w0.heap.size ≤ (wr.drew.drew.alloc (.cells (pEnc q).toArray 31)).heap.size) := PA.out.k.b.size
      have HGT6 : Hid (∀ w6, (wr.drew.drew.alloc (.cells (pEnc q).toArray 31)).grownBy w6 (some r) → CBk w6 g 51 #[.slice (some ⟨r, 0, none⟩) M c, .func (.func 35) #[] #[], .func (.func 36) #[] #[]]) := fun w6 h => PW1.out.grown h
      have ba0 : (wr.alloc (.cells #[.string q.sum, .int .i64 q.work, .int .i64 q.count] 31)).cell? ⟨g, 0, none⟩ = some (.slice (some ⟨r, 0, none⟩) M c) := (Below.cell ((Below.refl _ wr).alloc (Nat.le_refl _) _) (p := ⟨g, 0, none⟩) PW.out.k.s.lt).trans PW.out.k.outs.1
      clear a0 a1 a2 d0 d1 d2
      obtain ⟨⟨a0, a1, a2⟩, d0, d1, d2⟩ := PX.out.two
      go_wp2_with fail
      go_region_law (refine step_append_any rfl (.tmp 56) (.tmp 58) 26 rfl w0.heap.size 31 i0 (.agg #[.string ⟨#[]⟩, .int .i64 0, .int .i64 0]) 3 32 Tryz.underlying26 hi hz0 hz1 hz2 rfl (by decide) r c M ((ps.take M).flatMap pEnc) (by simp [Act.eval]) HFd.out ⟨wr.drew.heap.size, 0, none⟩ 1 1 (pEnc q) (by simp [Act.eval]) rfl HCN.out hu hx1 hx2 HBZ.out ?_; intro g6 c6 w6 hown6 hgrow6 hat6 hlt6; have C6 : Hid (CBk w6 g 51 #[.slice (some ⟨r, 0, none⟩) M c, .func (.func 35) #[] #[], .func (.func 36) #[] #[]]) := HGT6.out w6 hgrow6; have q6 : w6.cell? ⟨g, 0, none⟩ = some (.slice (some ⟨r, 0, none⟩) M c) := C6.out.cell 0; have z6 : w6.frozen? ⟨g, 0, none⟩ = false := C6.out.frozen 0)
      all_goals
        have K6 : Hid (StkW w0 (w6.setCell ⟨g, 0, none⟩ (.slice (some ⟨g6, 0, none⟩) (M + 1) c6)) g g6 c6 (M + 1) A) := by
          have hz := HZ.out
          have hne : g6 ≠ g := by
            have h1 : r = g6 ∨ g6 = wr.drew.heap.size ∨ wr.drew.heap.size ≤ g6 := by
              rcases hat6.out with h1 | h1
              · exact .inl h1
              · right; right; rw [h1]; simp
            omega
          refine ⟨C6.out.set 0 _, rowKeep ?_ hne, ?_, ?_, hne, hz.2.2.2.2.2.1⟩
          · rw [HRV.out, List.flatMap_append]
            simpa using hown6
          · rw [HRV.out, List.length_append, HLA.out]
            rfl
          · exact (PA.out.k.b.grown hgrow6 PA.out.k.b.size (fun j hj => by cases hj; exact hz.2.2.2.2.2.2)).setCell (p := ⟨g, 0, none⟩) hz.2.2.2.2.2.1 _
        clear PX PA C6 HRD hown6 hgrow6 hat6 hlt6
        go_wp2_with fail
        exact bodyPost_ret (results_none rfl _ _ _) rfl (push_res K6.out)
    | succ m =>
      have e0 : ((m + 1 : Nat) : Int) - 1 = (m : Int) := by omega
      rw [e0]
      have hml : m < ps.length := by rw [← HN.out]; omega
      have hgt : (ps.take (m + 1)).getD m default = ps.getD m default := by simp
      have hlen : m < (ps.take (m + 1)).length := by rw [List.length_take]; omega
      have HKM : Hid (Wide (ps.getD m default)) := HKP.out m hml
      have HS : Hid ((ps.getD m default).count = q.count → RoomW ps m (bothP (ps.getD m default) q)) := fun he => HRM.out.step HKP.out hml he
      have HYES : Hid ((ps.getD m default).count = q.count → addP (ps.take m) (bothP (ps.getD m default) q) = A) := fun he => by
        rw [← HAD.out, take_one hml, addP_yes he]
      have HNO : Hid (¬ (ps.getD m default).count = q.count → A = ps.take (m + 1) ++ [q]) := fun he => by
        rw [← HAD.out, take_one hml, addP_no he]
      have HTT : Hid ((ps.take (m + 1)).take m = ps.take m) := by show _ = _; rw [List.take_take]; congr 1; omega
      have HLL : Hid (m < (ps.take (m + 1)).length) := hlen
      have HGT : Hid ((ps.take (m + 1)).getD m default = ps.getD m default) := hgt
      have hd0 : decide ((0 : Int) ≤ (m : Int)) = true := decide_eq_true (by omega)
      have hd1 : (0 : Int) ≤ (m : Int) := by omega
      have lm1 : (m : Int) < ((m + 1 : Nat) : Int) := by omega
      obtain ⟨M, hM⟩ : ∃ M, M = m + 1 := ⟨_, rfl⟩
      have HM : Hid (M = m + 1) := hM
      rw [← hM] at lm1
      rw [← hM] at PW HNO HLL HGT hmn
      have HTT : Hid ((ps.take M).take m = ps.take m) := by rw [hM]; exact HTT.out
      have HMN : Hid (M ≤ n) := hmn
      have hdn : decide (0 ≤ m) = true := decide_eq_true (by omega)
      have ltm : m < M := by omega
      clear hM hlen hgt hml HAD hmn
      generalize ps.getD m default = t at HKM HS HYES HNO HGT
      obtain ⟨⟨a0, a1, a2⟩, ⟨q0, q1, q2⟩, d0, d1, d2⟩ := PW.out.all HLL.out HGT.out
      have hal := fun w' => implPeakAlike t q w'
      unfold peakVal at hal
      have PD : Hid (PushW w0 wr.drew g g3 r c M (ps.take M) q) := PW.out.drew
      by_cases he : t.count = q.count
      · have heb : (t.count == q.count) = true := by simpa using he
        rw [heb] at hal
        have HRM2 : Hid (RoomW ps m (bothP t q)) := HS.out he
        have HAD2 : Hid (addP (ps.take m) (bothP t q) = A) := HYES.out he
        have HBO : Hid (∀ w', Below w0.heap.size w0 w' → Calls Tryz.prog 36 #[.agg #[.string t.sum, .int .i64 t.work, .int .i64 t.count], .agg #[.string q.sum, .int .i64 q.work, .int .i64 q.count]] w' fun e w'' => e = .returned (.agg #[.string (bothP t q).sum, .int .i64 (bothP t q).work, .int .i64 (bothP t q).count]) ∧ Below w'.heap.size w' w'') := fun w' hb => implPeakBothW t q w' HKM.out HRM.out.ok (HK.out.below hb HK.out.lt) (TabP.below HP.out hb (Nat.le_refl _))
        clear HS HYES HNO he heb HRM HKM
        go_wp2_with fail
        go_region_held3 (fun w' => (w'.cell? ⟨g, 0, none⟩ = some (.slice (some ⟨r, 0, none⟩) M c) ∧ w'.cell? ⟨g, 1, none⟩ = some (.func (.func 35) #[] #[]) ∧ w'.cell? ⟨g, 2, none⟩ = some (.func (.func 36) #[] #[])) ∧ (w'.cell? ⟨r, m * 3, none⟩ = some (.string t.sum) ∧ w'.cell? ⟨r, m * 3 + 1, none⟩ = some (.int .i64 t.work) ∧ w'.cell? ⟨r, m * 3 + 2, none⟩ = some (.int .i64 t.count)) ∧ (w'.cell? ⟨g3, 0, none⟩ = some (.string q.sum) ∧ w'.cell? ⟨g3, 1, none⟩ = some (.int .i64 q.work) ∧ w'.cell? ⟨g3, 2, none⟩ = some (.int .i64 q.count)))
          (first | exact PW.out.all HLL.out HGT.out | exact PD.out.all HLL.out HGT.out | exact P5.out.all HLL.out HGT.out)
          (first | (go_at_call 35; refine (hal _).mono ?_; rintro e w5 ⟨rfl, b5⟩; have P5 : Hid (PushW w0 w5 g g3 r c M (ps.take M) q) := PD.out.call b5))
        clear a0 a1 a2 q0 q1 q2 d0 d1 d2 PW PD b5
        obtain ⟨⟨a0, a1, a2⟩, ⟨q0, q1, q2⟩, d0, d1, d2⟩ := P5.out.all HLL.out HGT.out
        have hlt4 : (m : Int) < (M : Int) := lm1
        go_wp2_with fail
        go_region_with (go_at_call 36; refine (HBO.out _ (P5.out.drew.k.b)).mono ?_; rintro e w6 ⟨rfl, b6⟩; have P6 : Hid (PushW w0 w6 g g3 r c M (ps.take M) q) := P5.out.drew.call b6; obtain ⟨m0, m1, m2⟩ := P6.out.o.cells3; obtain ⟨f0, f1, f2⟩ := P6.out.o.free3)
        all_goals
          have P7 : Hid _ := P6.out.put (bothP t q)
          generalize bothP t q = nq at P7 HRM2 HAD2
          clear a0 a1 a2 q0 q1 q2 d0 d1 d2 m0 m1 m2 f0 f1 f2 b6 P6 P5 HBO
          generalize (((w6.setCell ⟨g3, 0, none⟩ (.string (nq).sum)).setCell ⟨g3, 1, none⟩ (.int .i64 (nq).work)).setCell ⟨g3, 2, none⟩ (.int .i64 (nq).count)) = w7 at P7 ⊢
          clear w6
          obtain ⟨⟨a0, a1, a2⟩, d0, d1, d2⟩ := P7.out.two
          have z0 := P7.out.k.s.frozen 0
          have lmc : (m : Int) ≤ (c : Int) := by have := P7.out.k.at.2.2.2; omega
          have hc0 : ¬ c = 0 := by have := P7.out.k.at.2.2.2; omega
          have P8 : Hid (PushW w0 (w7.setCell ⟨g, 0, none⟩ (.slice (some ⟨r, 0, none⟩) m c)) g g3 r c m (ps.take m) nq) := by
            have h1 := P7.out
            rw [HM.out] at h1
            have h2 := h1.pop
            rwa [show (ps.take (m + 1)).take m = ps.take m from by rw [← HM.out]; exact HTT.out] at h2
          have hw2 : IntKind.i64.wrap ((m : Int) - 1) = (m : Int) - 1 := by have := HMN.out; have := HM0.out; rw [IntKind.wrap_i64]; omega
          clear P7
          go_wp2_with fail
          go_roundw
          case rel => exact ⟨m, nq, by have := HM.out; have := HMN.out; omega, rfl, P8, HAD2, HRM2⟩
          case measure => have := HM.out; simp [intOf] <;> omega
      · have heb : (t.count == q.count) = false := by simpa using he
        rw [heb] at hal
        have HRV : Hid (A = ps.take M ++ [q]) := HNO.out he
        clear HS HYES HNO he heb HRM HKM HTT
        go_wp2_with fail
        go_region_held3 (fun w' => (w'.cell? ⟨g, 0, none⟩ = some (.slice (some ⟨r, 0, none⟩) M c) ∧ w'.cell? ⟨g, 1, none⟩ = some (.func (.func 35) #[] #[]) ∧ w'.cell? ⟨g, 2, none⟩ = some (.func (.func 36) #[] #[])) ∧ (w'.cell? ⟨r, m * 3, none⟩ = some (.string t.sum) ∧ w'.cell? ⟨r, m * 3 + 1, none⟩ = some (.int .i64 t.work) ∧ w'.cell? ⟨r, m * 3 + 2, none⟩ = some (.int .i64 t.count)) ∧ (w'.cell? ⟨g3, 0, none⟩ = some (.string q.sum) ∧ w'.cell? ⟨g3, 1, none⟩ = some (.int .i64 q.work) ∧ w'.cell? ⟨g3, 2, none⟩ = some (.int .i64 q.count)))
          (first | exact PW.out.all HLL.out HGT.out | exact PD.out.all HLL.out HGT.out | exact P5.out.all HLL.out HGT.out)
          (first | (go_at_call 35; refine (hal _).mono ?_; rintro e w5 ⟨rfl, b5⟩; have P5 : Hid (PushW w0 w5 g g3 r c M (ps.take M) q) := PD.out.call b5))
        clear a0 a1 a2 q0 q1 q2 d0 d1 d2 PW PD b5
        have HLA : Hid ((ps.take M).length = M) := P5.out.k.len
        have hx1 : M + 1 ≤ maxLen := by have h1 := HLA.out; rw [List.length_take] at h1; have h2 := HM0.out; have h3 := HN.out; unfold maxLen; omega
        have hx2 : (M + 1) * 32 ≤ 140737488355328 := by have h1 := HLA.out; rw [List.length_take] at h1; have h2 := HM0.out; have h3 := HN.out; omega
        have HRD : Hid (w5.ownsRow w0.heap.size 31 3 (.slice (some ⟨r, 0, none⟩) M c) M ((ps.take M).flatMap pEnc)) := P5.out.k.row
        have HZ : Hid (w0.heap.size ≤ w5.heap.size ∧ g3 < w5.heap.size ∧ g < g3 ∧ r < g3 ∧ r ≠ g ∧ w0.heap.size ≤ g ∧ w0.heap.size ≤ r) := ⟨P5.out.k.b.size, P5.out.o.lt, P5.out.n1, P5.out.n2, P5.out.k.rg, P5.out.k.lo, P5.out.k.at.2.2.1⟩
        have PX : Hid (PushW w0 w5.drew g g3 r c M (ps.take M) q) := P5.out.drew
        have PA : Hid (PushW w0 (w5.drew.alloc (.cells (pEnc q).toArray 31)) g g3 r c M (ps.take M) q) := PX.out.call ((Below.refl _ _).alloc (Nat.le_refl _) _)
        have hu := pEnc_one q
        have HCN : Hid (∀ j u, (pEnc q)[j]? = some u → (w5.drew.alloc (.cells (pEnc q).toArray 31)).cell? ((⟨w5.heap.size, 0, none⟩ : Addr).add j) = some u) := cells_new w5.drew 31 (pEnc q)
        have HFd : Hid ((w5.drew.alloc (.cells (pEnc q).toArray 31)).ownsRow w0.heap.size 31 3 (.slice (some ⟨r, 0, none⟩) M c) M ((ps.take M).flatMap pEnc)) := PA.out.k.row
        have HBZ : Hid (w0.heap.size ≤ (w5.drew.alloc (.cells (pEnc q).toArray 31)).heap.size) := PA.out.k.b.size
        have HGT6 : Hid (∀ w6, (w5.drew.alloc (.cells (pEnc q).toArray 31)).grownBy w6 (some r) → CBk w6 g 51 #[.slice (some ⟨r, 0, none⟩) M c, .func (.func 35) #[] #[], .func (.func 36) #[] #[]]) := fun w6 h => P5.out.grown h
        have ba0 : (w5.alloc (.cells #[.string q.sum, .int .i64 q.work, .int .i64 q.count] 31)).cell? ⟨g, 0, none⟩ = some (.slice (some ⟨r, 0, none⟩) M c) := (Below.cell ((Below.refl _ w5).alloc (Nat.le_refl _) _) (p := ⟨g, 0, none⟩) P5.out.k.s.lt).trans P5.out.k.outs.1
        obtain ⟨⟨a0, a1, a2⟩, d0, d1, d2⟩ := PX.out.two
        go_wp2_with fail
        go_region_law (refine step_append_any rfl (.tmp 56) (.tmp 58) 26 rfl w0.heap.size 31 i0 (.agg #[.string ⟨#[]⟩, .int .i64 0, .int .i64 0]) 3 32 Tryz.underlying26 hi hz0 hz1 hz2 rfl (by decide) r c M ((ps.take M).flatMap pEnc) (by simp [Act.eval]) HFd.out ⟨w5.heap.size, 0, none⟩ 1 1 (pEnc q) (by simp [Act.eval]) rfl HCN.out hu hx1 hx2 HBZ.out ?_; intro g6 c6 w6 hown6 hgrow6 hat6 hlt6; have C6 : Hid (CBk w6 g 51 #[.slice (some ⟨r, 0, none⟩) M c, .func (.func 35) #[] #[], .func (.func 36) #[] #[]]) := HGT6.out w6 hgrow6; have q6 : w6.cell? ⟨g, 0, none⟩ = some (.slice (some ⟨r, 0, none⟩) M c) := C6.out.cell 0; have z6 : w6.frozen? ⟨g, 0, none⟩ = false := C6.out.frozen 0)
        all_goals
          have K6 : Hid (StkW w0 (w6.setCell ⟨g, 0, none⟩ (.slice (some ⟨g6, 0, none⟩) (M + 1) c6)) g g6 c6 (M + 1) A) := by
            have hz := HZ.out
            have hne : g6 ≠ g := by
              have h1 : r = g6 ∨ g6 = w5.heap.size ∨ w5.heap.size ≤ g6 := by
                rcases hat6.out with h1 | h1
                · exact .inl h1
                · right; right; rw [h1]; simp
              omega
            refine ⟨C6.out.set 0 _, rowKeep ?_ hne, ?_, ?_, hne, hz.2.2.2.2.2.1⟩
            · rw [HRV.out, List.flatMap_append]
              simpa using hown6
            · rw [HRV.out, List.length_append, HLA.out]
              rfl
            · exact (PA.out.k.b.grown hgrow6 PA.out.k.b.size (fun j hj => by cases hj; exact hz.2.2.2.2.2.2)).setCell (p := ⟨g, 0, none⟩) hz.2.2.2.2.2.1 _
          clear PX PA C6 HRD hown6 hgrow6 hat6 hlt6
          go_wp2_with fail
          exact bodyPost_ret (results_none rfl _ _ _) rfl (push_res K6.out)

end Go.Proofs.YtoojimfimlpplaaGreatDoor

set_option linter.unusedVariables false
namespace Go.Proofs.YtoojimfimlpplaaGreatDoor
open Go.RowKit Go.Deep

set_option maxHeartbeats 1000000 in
set_option maxRecDepth 100000 in
theorem specPeakTextW (p : PeakV) (w : World) (hok : Wide p) :
    Calls Tryz.prog 83 #[.agg #[.string p.sum, .int .i64 p.work, .int .i64 p.count]] w fun e w' => e = .returned (.string (peakB p)) ∧ Below w.heap.size w w' := by
  have h2 := wide_in hok
  obtain ⟨s, wk, ct⟩ := p
  dsimp only at h2 ⊢
  obtain ⟨a, rfl⟩ : ∃ a : Nat, wk = (a : Int) := ⟨wk.toNat, by omega⟩
  obtain ⟨b, rfl⟩ : ∃ b : Nat, ct = (b : Int) := ⟨ct.toNat, by omega⟩
  have HV : Hid (peakB ⟨s, (a : Int), (b : Int)⟩ = s ++ ⟨#[32]⟩ ++ ⟨(Lib.decDigits a).toArray⟩ ++ ⟨#[32]⟩ ++ ⟨(Lib.decDigits b).toArray⟩) := rfl
  have hia := fun w' => specDec a w' (by omega)
  have hib := fun w' => specDec b w' (by omega)
  have hps := sum_size (wide_sum hok)
  dsimp only at hps
  have hal : (Lib.decDigits a).length ≤ 19 := decLen (by omega)
  have hbl : (Lib.decDigits b).length ≤ 19 := decLen (by omega)
  generalize peakB ⟨s, (a : Int), (b : Int)⟩ = R at HV ⊢
  generalize Lib.decDigits a = da at hia HV hal
  generalize Lib.decDigits b = db at hib HV hbl
  have q1 : ¬ 9223372036854775807 < 17 + da.length := by omega
  have q2 : ¬ 9223372036854775807 < 17 + da.length + 1 := by omega
  have q3 : ¬ 9223372036854775807 < 17 + da.length + 1 + db.length := by omega
  have S0 : PSt w _ w.heap.size s (a : Int) (b : Int) := PSt.new w 31 s (a : Int) (b : Int)
  clear hok h2
  go_enter Tryz.func83, Tryz.ntmps83
  go_wp2_with fail
  go_region_held3 (fun w' => w'.cell? ⟨w.heap.size, 0, none⟩ = some (.string s) ∧ w'.cell? ⟨w.heap.size, 1, none⟩ = some (.int .i64 (a : Int)) ∧ w'.cell? ⟨w.heap.size, 2, none⟩ = some (.int .i64 (b : Int)))
    (first | (with_reducible first | exact S2.out | exact S1.out | exact S0.out | exact S0.drew.out) | go_keep)
    (first
      | (go_at_call 86; have q9 := S1.out; refine (hib _).mono ?_; rintro e w2 ⟨rfl, b2⟩; have S2 : PSt w w2 w.heap.size s (a : Int) (b : Int) := S1.call b2)
      | (go_at_call 86; refine (hia _).mono ?_; rintro e w1 ⟨rfl, b1⟩; have S1 : PSt w w1 w.heap.size s (a : Int) (b : Int) := S0.drew.call b1))
  go_wp2_with fail
  go_ret
  exact ⟨by rw [HV.out]; rfl, S2.2.1⟩

set_option maxHeartbeats 4000000 in
set_option maxRecDepth 100000 in
theorem specL5BothW (a b : PeakV) (w : World) (ha : Wide a) (hb : Wide b) :
    Calls Tryz.prog 74 #[peakVal a, peakVal b] w fun e w' => e = .returned (peakVal (bothP a b)) ∧ Below w.heap.size w w' := by
  have hpa := fun w' => specPeakTextW a w' ha
  have hpb := fun w' => specPeakTextW b w' hb
  have hsa := peakB_sizeW ha
  have hsb := peakB_sizeW hb
  have hia := wide_in ha
  have hib := wide_in hb
  have hsz := bothX_sizeW ha hb
  have HXE : Hid (((⟨#[112, 101, 97, 107, 32]⟩ : ByteArray) ++ peakB a) ++ (⟨#[32]⟩ : ByteArray) ++ peakB b = bothX a b) := rfl
  have hw1 : IntKind.i64.wrap (a.work + b.work) = a.work + b.work := by rw [IntKind.wrap_i64]; omega
  have hw2 : IntKind.i64.wrap (a.count + b.count) = a.count + b.count := by rw [IntKind.wrap_i64]; omega
  unfold peakVal bothP
  dsimp only
  generalize peakB a = pa at hpa hsa HXE
  generalize peakB b = pb at hpb hsb HXE
  generalize bothX a b = X at hsz HXE ⊢
  have q1 : ¬ 9223372036854775807 < 5 + pa.size := by omega
  have q2 : ¬ 9223372036854775807 < 5 + pa.size + 1 := by omega
  have q3 : ¬ 9223372036854775807 < 5 + pa.size + 1 + pb.size := by omega
  have A0 : Hid (CBk (((w.alloc (.cells #[.string a.sum, .int .i64 a.work, .int .i64 a.count] 31)).alloc (.cells #[.string b.sum, .int .i64 b.work, .int .i64 b.count] 31)).alloc (.cells #[.string ⟨#[]⟩, .int .i64 0, .int .i64 0] 31)) w.heap.size 31 #[.string a.sum, .int .i64 a.work, .int .i64 a.count]) := ((CBk.new w _ _).alloc _).alloc _
  have A1 : Hid (CBk (((w.alloc (.cells #[.string a.sum, .int .i64 a.work, .int .i64 a.count] 31)).alloc (.cells #[.string b.sum, .int .i64 b.work, .int .i64 b.count] 31)).alloc (.cells #[.string ⟨#[]⟩, .int .i64 0, .int .i64 0] 31)) (w.heap.size + 1) 31 #[.string b.sum, .int .i64 b.work, .int .i64 b.count]) := by
    have := (CBk.new (w.alloc (.cells #[.string a.sum, .int .i64 a.work, .int .i64 a.count] 31)) 31 #[.string b.sum, .int .i64 b.work, .int .i64 b.count]).alloc (.cells #[.string ⟨#[]⟩, .int .i64 0, .int .i64 0] 31)
    rwa [show (w.alloc (.cells #[.string a.sum, .int .i64 a.work, .int .i64 a.count] 31)).heap.size = w.heap.size + 1 from by simp] at this
  have A2 : Hid (CBk (((w.alloc (.cells #[.string a.sum, .int .i64 a.work, .int .i64 a.count] 31)).alloc (.cells #[.string b.sum, .int .i64 b.work, .int .i64 b.count] 31)).alloc (.cells #[.string ⟨#[]⟩, .int .i64 0, .int .i64 0] 31)) (w.heap.size + 1 + 1) 31 #[.string ⟨#[]⟩, .int .i64 0, .int .i64 0]) := by
    have := CBk.new ((w.alloc (.cells #[.string a.sum, .int .i64 a.work, .int .i64 a.count] 31)).alloc (.cells #[.string b.sum, .int .i64 b.work, .int .i64 b.count] 31)) 31 #[.string ⟨#[]⟩, .int .i64 0, .int .i64 0]
    rwa [show ((w.alloc (.cells #[.string a.sum, .int .i64 a.work, .int .i64 a.count] 31)).alloc (.cells #[.string b.sum, .int .i64 b.work, .int .i64 b.count] 31)).heap.size = w.heap.size + 1 + 1 from by simp] at this
  have L0 : Hid (Below w.heap.size w (((w.alloc (.cells #[.string a.sum, .int .i64 a.work, .int .i64 a.count] 31)).alloc (.cells #[.string b.sum, .int .i64 b.work, .int .i64 b.count] 31)).alloc (.cells #[.string ⟨#[]⟩, .int .i64 0, .int .i64 0] 31))) := (((Below.refl _ w).alloc (Nat.le_refl _) _).alloc (by simp) _).alloc (by simp; omega) _
  clear ha hb hia hib
  go_enter Tryz.func74, Tryz.ntmps74
  go_wp2_with fail
  generalize ((w.alloc (.cells #[.string a.sum, .int .i64 a.work, .int .i64 a.count] 31)).alloc (.cells #[.string b.sum, .int .i64 b.work, .int .i64 b.count] 31)).alloc (.cells #[.string ⟨#[]⟩, .int .i64 0, .int .i64 0] 31) = W0 at A0 A1 A2 L0 ⊢
  obtain ⟨g0, hg0⟩ : ∃ g0, g0 = w.heap.size := ⟨_, rfl⟩
  have HG : Hid (g0 = w.heap.size) := hg0
  rw [← hg0] at A0 A1 A2 ⊢
  clear hg0
  have hne : ¬ g0 = g0 + 1 + 1 := by omega
  have hne2 : ¬ g0 + 1 + 1 = g0 := by omega
  have hne3 : ¬ g0 + 1 = g0 + 1 + 1 := by omega
  have hne4 : ¬ g0 + 1 + 1 = g0 + 1 := by omega
  obtain ⟨c0, c1, c2⟩ := A0.out.drew2.cells3
  obtain ⟨m0, m1, m2⟩ := A1.out.drew2.cells3
  go_region_held3 (fun w' => (w'.cell? ⟨g0, 0, none⟩ = some (.string a.sum) ∧ w'.cell? ⟨g0, 1, none⟩ = some (.int .i64 a.work) ∧ w'.cell? ⟨g0, 2, none⟩ = some (.int .i64 a.count)) ∧ (w'.cell? ⟨g0 + 1, 0, none⟩ = some (.string b.sum) ∧ w'.cell? ⟨g0 + 1, 1, none⟩ = some (.int .i64 b.work) ∧ w'.cell? ⟨g0 + 1, 2, none⟩ = some (.int .i64 b.count)))
    (first | (with_reducible first | exact ⟨A0.out.drew2.cells3, A1.out.drew2.cells3⟩ | exact ⟨B0.out.cells3, B1.out.cells3⟩ | exact ⟨C0.out.cells3, C1.out.cells3⟩ | exact ⟨D0.out.cells3, D1.out.cells3⟩) | go_keep)
    (first
      | (go_at_call 83; have q9 := B0.out.cells3; clear q9; refine (hpb _).mono ?_; rintro e w2 ⟨rfl, b2⟩; have C0 : Hid (CBk w2 g0 31 #[.string a.sum, .int .i64 a.work, .int .i64 a.count]) := B0.out.call b2; have C1 : Hid (CBk w2 (g0 + 1) 31 #[.string b.sum, .int .i64 b.work, .int .i64 b.count]) := B1.out.call b2; have C2 : Hid (CBk w2 (g0 + 1 + 1) 31 #[.string ⟨#[]⟩, .int .i64 0, .int .i64 0]) := B2.out.call b2; have L2 : Hid (Below w.heap.size w w2) := L1.out.trans (b2.mono L1.out.size))
      | (go_at_call 83; refine (hpa _).mono ?_; rintro e w1 ⟨rfl, b1⟩; have B0 : Hid (CBk w1 g0 31 #[.string a.sum, .int .i64 a.work, .int .i64 a.count]) := A0.out.drew2.call b1; have B1 : Hid (CBk w1 (g0 + 1) 31 #[.string b.sum, .int .i64 b.work, .int .i64 b.count]) := A1.out.drew2.call b1; have B2 : Hid (CBk w1 (g0 + 1 + 1) 31 #[.string ⟨#[]⟩, .int .i64 0, .int .i64 0]) := A2.out.drew2.call b1; have L1 : Hid (Below w.heap.size w w1) := L0.out.drew.trans (b1.mono L0.out.size))
      | (go_at_call 75; rw [HXE.out]; refine (specSum _ _ hsz).mono ?_; rintro e w3 ⟨rfl, b3⟩; have D0 : Hid (CBk w3 g0 31 #[.string a.sum, .int .i64 a.work, .int .i64 a.count]) := C0.out.call b3; have D1 : Hid (CBk w3 (g0 + 1) 31 #[.string b.sum, .int .i64 b.work, .int .i64 b.count]) := C1.out.call b3; have D2 : Hid (CBk w3 (g0 + 1 + 1) 31 #[.string ⟨#[]⟩, .int .i64 0, .int .i64 0]) := C2.out.call b3; have L3 : Hid (Below w.heap.size w w3) := L2.out.trans (b3.mono L2.out.size); obtain ⟨e0, e1, e2⟩ := D2.out.cells3; obtain ⟨k0, k1, k2⟩ := D2.out.free3))
  have T3 : Hid (CBk (((w3.setCell ⟨g0 + 1 + 1, 0, none⟩ (.string ⟨(sumB X.data.toList).toArray⟩)).setCell ⟨g0 + 1 + 1, 1, none⟩ (.int .i64 (a.work + b.work))).setCell ⟨g0 + 1 + 1, 2, none⟩ (.int .i64 (a.count + b.count))) (g0 + 1 + 1) 31 #[.string ⟨(sumB X.data.toList).toArray⟩, .int .i64 (a.work + b.work), .int .i64 (a.count + b.count)]) := D2.out.set3
  have LF : Hid (Below w.heap.size w (((w3.setCell ⟨g0 + 1 + 1, 0, none⟩ (.string ⟨(sumB X.data.toList).toArray⟩)).setCell ⟨g0 + 1 + 1, 1, none⟩ (.int .i64 (a.work + b.work))).setCell ⟨g0 + 1 + 1, 2, none⟩ (.int .i64 (a.count + b.count)))) := by
    have e4 := HG.out
    exact ((L3.out.setCell (p := ⟨g0 + 1 + 1, 0, none⟩) (by show w.heap.size ≤ g0 + 1 + 1; omega) _).setCell (p := ⟨g0 + 1 + 1, 1, none⟩) (by show w.heap.size ≤ g0 + 1 + 1; omega) _).setCell (p := ⟨g0 + 1 + 1, 2, none⟩) (by show w.heap.size ≤ g0 + 1 + 1; omega) _
  go_wp2_with fail
  exact bodyPost_ret (results_cell_row (p := 4) rfl _ _ (g0 + 1 + 1) 31 #[.string ⟨(sumB X.data.toList).toArray⟩, .int .i64 (a.work + b.work), .int .i64 (a.count + b.count)] (0, 0) _ rfl T3.out Tryz.underlying31 rfl (by kernel_rfl)) rfl ⟨rfl, LF.out⟩

set_option maxHeartbeats 8000000 in
set_option maxRecDepth 100000 in
theorem specL5AddW (g n cap : Nat) (ps : List PeakV) (p : PeakV) (w : World) (h : AtP w g ps) (hn : n = ps.length) (hm : n ≤ 1048576) (hk : ∀ i, i < ps.length → Wide (ps.getD i default)) (hr : RoomW ps n p) :
    Calls Tryz.prog 53 #[.slice (some ⟨g, 0, none⟩) n cap, peakVal p] w fun e w' => ∃ v, e = .returned v ∧ PRow w.heap.size v (addP ps p) w' ∧ Below w.heap.size w w' := by
  obtain ⟨i0, hi, hz0, hz1, hz2⟩ := info3 infoPeak
  have HA : Hid (AtP w g ps) := h
  have HN : Hid (n = ps.length) := hn
  have HKP : Hid (∀ i, i < ps.length → Wide (ps.getD i default)) := hk
  have HR0 : Hid (RoomW ps n p) := hr
  have HAD : Hid (addP (ps.take n) p = addP ps p) := by show _ = _; rw [hn, List.take_length]
  generalize addP ps p = A at HAD ⊢
  unfold peakVal
  have C0 : Hid (CBk ((w.alloc (.cells #[.string p.sum, .int .i64 p.work, .int .i64 p.count] 31)).alloc (.cells #[] 31)) w.heap.size 31 #[.string p.sum, .int .i64 p.work, .int .i64 p.count]) := (CBk.new w _ _).alloc _
  have L0 : Hid (Below w.heap.size w ((w.alloc (.cells #[.string p.sum, .int .i64 p.work, .int .i64 p.count] 31)).alloc (.cells #[] 31))) := ((Below.refl _ w).alloc (Nat.le_refl _) _).alloc (by simp) _
  have R0 : Hid (((w.alloc (.cells #[.string p.sum, .int .i64 p.work, .int .i64 p.count] 31)).alloc (.cells #[] 31)).ownsRow (w.heap.size + 1) 31 3 (.slice (some ⟨w.heap.size + 1, 0, none⟩) 0 0) 0 []) := by
    have := (frow_new pEnc 31 3 (w.alloc (.cells #[.string p.sum, .int .i64 p.work, .int .i64 p.count] 31))).2
    rwa [show (w.alloc (.cells #[.string p.sum, .int .i64 p.work, .int .i64 p.count] 31)).heap.size = w.heap.size + 1 from by simp] at this
  have HZ : Hid (((w.alloc (.cells #[.string p.sum, .int .i64 p.work, .int .i64 p.count] 31)).alloc (.cells #[] 31)).heap.size = w.heap.size + 2) := by show _ = _; simp
  have HU : Hid (∀ u ∈ ps.flatMap pEnc, u.oneCell' = true) := pEncs_one ps
  have HNW : Hid (∀ wx, Below w.heap.size w wx → ∀ j u, (ps.flatMap pEnc)[j]? = some u → wx.cell? ((⟨g, 0, none⟩ : Addr).add j) = some u) := by
    intro wx hb j u hj
    have hat := HA.out.below hb HA.out.1
    have hjl : j < (ps.flatMap pEnc).length := by
      rcases Nat.lt_or_ge j (ps.flatMap pEnc).length with h' | h'
      · exact h'
      · rw [List.getElem?_eq_none h'] at hj; cases hj
    rw [flat_length 3 pEnc pEnc_len] at hjl
    have hq : j = j / 3 * 3 + j % 3 := by omega
    have hi3 : j / 3 < ps.length := by omega
    have h3 := hat.2 (j / 3) (j % 3) hi3 (Nat.mod_lt _ (by decide))
    have hf := flat_at 3 pEnc pEnc_len ps (j / 3) (j % 3) hi3 (Nat.mod_lt _ (by decide))
    rw [← hq] at h3 hf
    rw [add0, h3, ← hf]
    exact hj
  have HPL : Hid ((ps.flatMap pEnc).length = n * 3) := by show _ = _; rw [flat_length 3 pEnc pEnc_len, hn]
  clear h hn hk hr
  have hy1 : 0 + n ≤ maxLen := by unfold maxLen; omega
  have hy2 : (0 + n) * 32 ≤ 140737488355328 := by omega
  go_enter Tryz.func53, Tryz.ntmps53
  have hzz : w.heap.size + 1 ≤ ((w.alloc (.cells #[.string p.sum, .int .i64 p.work, .int .i64 p.count] 31)).alloc (.cells #[] 31)).heap.size := by have := HZ.out; omega
  obtain ⟨g3, hg3⟩ : ∃ g3, g3 = w.heap.size := ⟨_, rfl⟩
  have HG3 : Hid (g3 = w.heap.size) := hg3
  go_wp2_with (at_builtin; refine wpList_append_any rfl _ _ 26 rfl (w.heap.size + 1) 31 i0 (.agg #[.string ⟨#[]⟩, .int .i64 0, .int .i64 0]) 3 32 Tryz.underlying26 hi hz0 hz1 hz2 rfl (by decide) (w.heap.size + 1) 0 0 [] (by rfl) R0.out ⟨g, 0, none⟩ n cap (ps.flatMap pEnc) (by rfl) HPL.out (HNW.out _ L0.out) HU.out hy1 hy2 hzz ?_; intro g5 c5 w1 hown1 hgrow1 hat1 hlt1)
  have C1 : Hid (CBk w1 g3 31 #[.string p.sum, .int .i64 p.work, .int .i64 p.count]) := by
    have := C0.out
    rw [← hg3] at this
    unfold CBk at this ⊢
    rw [hgrow1.block g3 (by have := HZ.out; omega) (by simp; omega)]
    exact this
  have B1 : Hid (Below w.heap.size w w1) := L0.out.grown hgrow1 (by have := HZ.out; omega) (fun j hj => by cases hj; omega)
  have RW1 : Hid (w1.ownsRow (w.heap.size + 1) 31 3 (.slice (some ⟨g5, 0, none⟩) n c5) n ((ps.take n).flatMap pEnc)) := by
    have e : ps.take n = ps := by rw [HN.out, List.take_length]
    rw [Nat.zero_add, List.nil_append] at hown1
    show World.ownsRow _ _ _ _ _ _ _
    rw [e]
    exact hown1
  rw [← hg3]
  clear hown1 hgrow1 hat1 hlt1 C0 L0 R0 HZ hzz hy1 hy2 HNW HU HPL
  clear hg3
  go_wp2_with fail
  go_loopw [5] (fun out wr => ∃ (m g5 c5 : Nat) (q : PeakV), m ≤ n ∧ out = .slice (some ⟨g5, 0, none⟩) m c5 ∧ Hid (wr.ownsRow (w.heap.size + 1) 31 3 (.slice (some ⟨g5, 0, none⟩) m c5) m ((ps.take m).flatMap pEnc)) ∧ Hid (CBk wr g3 31 #[.string q.sum, .int .i64 q.work, .int .i64 q.count]) ∧ Hid (addP (ps.take m) q = A) ∧ Hid (RoomW ps m q) ∧ Hid (Below w.heap.size w wr)) (fun out _ => sliceLen out)
  case atStart => exact ⟨n, g5, c5, p, Nat.le_refl _, rfl, RW1, C1, HAD, HR0, B1⟩
  case round =>
    clear RW1 C1 HAD HR0 B1
    obtain ⟨m, g5, c5, q, hmn, rfl, RW, CR, HAD, HRM, HB⟩ := hrel
    obtain ⟨d0, d1, d2⟩ := CR.out.cells3
    cases m with
    | zero =>
      have hd0 : decide ((0 : Int) < ((0 : Nat) : Int)) = false := by decide
      have hd1 : ((0 : Nat) : Int) = 0 := rfl
      have HRV : Hid (A = ps.take 0 ++ [q]) := by show _ = _; rw [← HAD.out, List.take_zero, addP_nil]; rfl
      go_wp2_with fail
      go_big_region
      obtain ⟨d0, d1, d2⟩ := CR.out.cells3
      have hx1 : 0 + 1 ≤ maxLen := by unfold maxLen; omega
      have hx2 : (0 + 1) * 32 ≤ 140737488355328 := by omega
      have hu := pEnc_one q
      have hsz : w.heap.size + 1 ≤ wr.heap.size := by have := CR.out.lt; have := HG3.out; omega
      have HRW : Hid (wr.drew.ownsRow (w.heap.size + 1) 31 3 (.slice (some ⟨g5, 0, none⟩) (0) c5) (0) ((ps.take (0)).flatMap pEnc)) := RW.out
      go_wp2_with (at_builtin; rw [drewAlloc]; refine wp_appN rfl _ _ 26 rfl (w.heap.size + 1) 31 i0 (.agg #[.string ⟨#[]⟩, .int .i64 0, .int .i64 0]) 3 32 1 Tryz.underlying26 hi hz0 hz1 hz2 rfl (by decide) (by decide) (.slice (some ⟨g5, 0, none⟩) (0) c5) (0) _ rfl HRW.out (pEnc q) (by first | rfl | simp [Act.eval]) rfl hu hx1 hx2 hsz ?_; intro g6 c6 w6 hown6 hb6 hkeep6)
      have R6 : Hid (PRow w.heap.size (.slice (some ⟨g6, 0, none⟩) (0 + 1) c6) A w6) := by
        have hv : A = ps.take (0) ++ [q] := HRV.out
        have hl : (ps.take (0)).length = 0 := by rw [List.length_take]; have := HN.out; omega
        have : PRow (w.heap.size + 1) (.slice (some ⟨g6, 0, none⟩) (0 + 1) c6) (ps.take (0) ++ [q]) w6 := FRow.of (by rw [List.flatMap_append]; simpa using hown6) (by rw [List.length_append, hl]; rfl)
        rw [hv]
        exact this.mono (Nat.le_succ _)
      have B6 : Hid (Below w.heap.size w w6) := HB.out.drew.trans (hb6.mono (Nat.le_succ _))
      clear hown6 hb6 hkeep6
      go_wp2_with fail
      go_ret
      exact ⟨_, rfl, R6.out, B6.out⟩
    | succ m =>
      have hml : m < ps.length := by rw [← HN.out]; omega
      have HRO : Hid (PRow (w.heap.size + 1) (.slice (some ⟨g5, 0, none⟩) (m + 1) c5) (ps.take (m + 1)) wr) := FRow.of RW.out (by rw [List.length_take]; omega)
      have hat := (FRow.at pEnc_len HRO.out).1
      have hlen : m < (ps.take (m + 1)).length := by rw [List.length_take]; omega
      have q0 := AtP.c0 hat m hlen
      have q1 := AtP.c1 hat m hlen
      have q2 := AtP.c2 hat m hlen
      have hgt : (ps.take (m + 1)).getD m default = ps.getD m default := by simp
      rw [hgt] at q0 q1 q2
      have HGE : Hid (w.heap.size + 1 ≤ g5 ∧ g5 < wr.heap.size) := ⟨(FRow.at pEnc_len HRO.out).2.2.1, hat.1⟩
      have HCC : Hid (m + 1 ≤ c5) := (FRow.at pEnc_len HRO.out).2.2.2
      have HKM : Hid (Wide (ps.getD m default)) := HKP.out m hml
      have HS : Hid ((ps.getD m default).count = q.count → RoomW ps m (bothP (ps.getD m default) q)) := fun he => HRM.out.step HKP.out hml he
      have HYES : Hid ((ps.getD m default).count = q.count → addP (ps.take m) (bothP (ps.getD m default) q) = A) := fun he => by
        rw [← HAD.out, take_one hml, addP_yes he]
      have HNO : Hid (¬ (ps.getD m default).count = q.count → A = ps.take (m + 1) ++ [q]) := fun he => by
        rw [← HAD.out, take_one hml, addP_no he]
      have hd0 : decide ((0 : Int) < ((m + 1 : Nat) : Int)) = true := decide_eq_true (by omega)
      have hd2 : (0 : Int) < ((m + 1 : Nat) : Int) := by omega
      have hw1 : IntKind.i64.wrap (((m + 1 : Nat) : Int) - 1) = (m : Int) := by rw [IntKind.wrap_i64]; omega
      have lm0 : (0 : Int) ≤ (m : Int) := by omega
      have lm1 : (m : Int) < ((m + 1 : Nat) : Int) := by omega
      obtain ⟨M, hM⟩ : ∃ M, M = m + 1 := ⟨_, rfl⟩
      have HM : Hid (M = m + 1) := hM
      rw [← hM] at hd0 hd2 hw1 lm1 ⊢
      rw [← hM] at HRO RW HNO HCC hmn
      have HTK : Hid (ps.take M = ps.take m ++ [ps.getD m default]) := by show _ = _; rw [hM, take_one hml]
      have hdN : decide (0 < M) = true := decide_eq_true (by omega)
      have hdN2 : 0 < M := by omega
      clear hM hat hlen hgt hml HAD
      generalize ps.getD m default = t at q0 q1 q2 HKM HS HYES HNO HTK
      by_cases he : t.count = q.count
      · have heb : (t.count == q.count) = true := by simpa using he
        have HRM2 : Hid (RoomW ps m (bothP t q)) := HS.out he
        have HAD2 : Hid (addP (ps.take m) (bothP t q) = A) := HYES.out he
        have hp1 := fun w' => specL5BothW t q w' HKM.out HRM.out.ok
        unfold peakVal at hp1
        have lmc : (m : Int) ≤ (c5 : Int) := by have := HCC.out; have := HM.out; omega
        have hc0 : ¬ c5 = 0 := by have := HCC.out; have := HM.out; omega
        clear HS HYES HNO he
        go_wp2_with fail
        go_big_region
        go_wp2_with fail
        go_region_with (go_at_call 74; refine (hp1 _).mono ?_; rintro e w5 ⟨rfl, b5⟩; have C5 : Hid (CBk w5 g3 31 #[.string q.sum, .int .i64 q.work, .int .i64 q.count]) := CBk.call (w := wr.drew.drew) CR.out b5; obtain ⟨m0, m1, m2⟩ := C5.out.cells3; obtain ⟨f0, f1, f2⟩ := C5.out.free3)
        all_goals
          have C6 : Hid (CBk (((w5.setCell ⟨g3, 0, none⟩ (.string (bothP t q).sum)).setCell ⟨g3, 1, none⟩ (.int .i64 (bothP t q).work)).setCell ⟨g3, 2, none⟩ (.int .i64 (bothP t q).count)) g3 31 #[.string (bothP t q).sum, .int .i64 (bothP t q).work, .int .i64 (bothP t q).count]) := C5.out.set3
          have B6 : Hid (Below w.heap.size w (((w5.setCell ⟨g3, 0, none⟩ (.string (bothP t q).sum)).setCell ⟨g3, 1, none⟩ (.int .i64 (bothP t q).work)).setCell ⟨g3, 2, none⟩ (.int .i64 (bothP t q).count))) := by
            have e4 := HG3.out
            exact (((HB.out.drew.drew.trans (Below.mono (w := wr.drew.drew) b5 HB.out.size)).setCell (p := ⟨g3, 0, none⟩) (by show w.heap.size ≤ g3; omega) _).setCell (p := ⟨g3, 1, none⟩) (by show w.heap.size ≤ g3; omega) _).setCell (p := ⟨g3, 2, none⟩) (by show w.heap.size ≤ g3; omega) _
          have R6 : Hid ((((w5.setCell ⟨g3, 0, none⟩ (.string (bothP t q).sum)).setCell ⟨g3, 1, none⟩ (.int .i64 (bothP t q).work)).setCell ⟨g3, 2, none⟩ (.int .i64 (bothP t q).count)).ownsRow (w.heap.size + 1) 31 3 (.slice (some ⟨g5, 0, none⟩) m c5) m ((ps.take m).flatMap pEnc)) := by
            have hl : ((ps.take m).flatMap pEnc).length = m * 3 := by
              rw [flat_length 3 pEnc pEnc_len, List.length_take]
              have := HN.out
              have := HM.out
              omega
            have h5 : w5.ownsRow (w.heap.size + 1) 31 3 (.slice (some ⟨g5, 0, none⟩) (m + 1) c5) (m + 1) ((ps.take m).flatMap pEnc ++ pEnc t) := by
              have := (FRow.below (w := wr.drew.drew) HRO.out (w' := w5) b5).2
              rw [HTK.out, List.flatMap_append] at this
              have hmin : min m ps.length = m := by have := HN.out; have := HM.out; omega
              simpa [HM.out, List.length_take, hmin] using this
            have h6 := ownsRow_pop hl h5
            have hgg : ∀ (i : Nat) (v : Value) (wx : World), wx.ownsRow (w.heap.size + 1) 31 3 (.slice (some ⟨g5, 0, none⟩) m c5) m ((ps.take m).flatMap pEnc) → (wx.setCell ⟨g3, i, none⟩ v).ownsRow (w.heap.size + 1) 31 3 (.slice (some ⟨g5, 0, none⟩) m c5) m ((ps.take m).flatMap pEnc) := by
              intro i v wx hx
              obtain ⟨h1, h2⟩ := hx
              refine ⟨h1, ?_⟩
              rcases h2 with h3 | ⟨g', cap', cur, hv, hB, hg, h4⟩
              · exact .inl h3
              · refine .inr ⟨g', cap', cur, hv, hB, ?_, h4⟩
                have : g3 ≠ g' := by have := HG3.out; omega
                simp [World.setCell, Array.getElem?_modify, hg, this]
            exact hgg _ _ _ (hgg _ _ _ (hgg _ _ _ h6))
          generalize bothP t q = nq at C6 B6 R6 HRM2 HAD2
          clear C5 b5 m0 m1 m2 f0 f1 f2
          go_wp2_with fail
          go_roundw
          case rel => exact ⟨m, g5, c5, nq, by have := HM.out; omega, rfl, R6, C6, HAD2, HRM2, B6⟩
          case measure => have := HM.out; simp [sliceLen]; omega
      · have heb : (t.count == q.count) = false := by simpa using he
        have HRV : Hid (A = ps.take M ++ [q]) := HNO.out he
        have hMm : M ≤ 1048576 := by omega
        clear HS HYES HNO
        go_wp2_with fail
        go_big_region
        obtain ⟨d0, d1, d2⟩ := CR.out.cells3
        have hx1 : M + 1 ≤ maxLen := by unfold maxLen; omega
        have hx2 : (M + 1) * 32 ≤ 140737488355328 := by omega
        have hu := pEnc_one q
        have hsz : w.heap.size + 1 ≤ wr.heap.size := by have := CR.out.lt; have := HG3.out; omega
        have HRW : Hid (wr.drew.ownsRow (w.heap.size + 1) 31 3 (.slice (some ⟨g5, 0, none⟩) (M) c5) (M) ((ps.take (M)).flatMap pEnc)) := RW.out
        go_wp2_with (at_builtin; rw [drewAlloc]; refine wp_appN rfl _ _ 26 rfl (w.heap.size + 1) 31 i0 (.agg #[.string ⟨#[]⟩, .int .i64 0, .int .i64 0]) 3 32 1 Tryz.underlying26 hi hz0 hz1 hz2 rfl (by decide) (by decide) (.slice (some ⟨g5, 0, none⟩) (M) c5) (M) _ rfl HRW.out (pEnc q) (by first | rfl | simp [Act.eval]) rfl hu hx1 hx2 hsz ?_; intro g6 c6 w6 hown6 hb6 hkeep6)
        have R6 : Hid (PRow w.heap.size (.slice (some ⟨g6, 0, none⟩) (M + 1) c6) A w6) := by
          have hv : A = ps.take (M) ++ [q] := HRV.out
          have hl : (ps.take (M)).length = M := by rw [List.length_take]; have := HN.out; omega
          have : PRow (w.heap.size + 1) (.slice (some ⟨g6, 0, none⟩) (M + 1) c6) (ps.take (M) ++ [q]) w6 := FRow.of (by rw [List.flatMap_append]; simpa using hown6) (by rw [List.length_append, hl]; rfl)
          rw [hv]
          exact this.mono (Nat.le_succ _)
        have B6 : Hid (Below w.heap.size w w6) := HB.out.drew.trans (hb6.mono (Nat.le_succ _))
        clear hown6 hb6 hkeep6
        go_wp2_with fail
        go_ret
        exact ⟨_, rfl, R6.out, B6.out⟩

end Go.Proofs.YtoojimfimlpplaaGreatDoor

set_option linter.unusedVariables false
namespace Go.Proofs.YtoojimfimlpplaaGreatDoor
open Go.RowKit Go.Deep

theorem rangeOk_nil : rangeOkB [] = true := rfl
theorem implRangeOkNil (ps : List PeakV) (hps : ps = []) (w : World) : Calls Tryz.prog 23 #[.slice none 0 0] w fun e w' => e = .returned (.bool (rangeOkB ps)) ∧ Below w.heap.size w w' := by
  rw [hps, rangeOk_nil]
  clear hps
  go_enter Tryz.func23, Tryz.ntmps23
  go_wp2_with fail
  go_loopw [3, 8] (fun m i wr => m = .int .i64 0 ∧ i = .int .i64 0 ∧ Hid (wr = w)) (fun _ _ _ => 0)
  case atStart => exact ⟨rfl, rfl, rfl⟩
  case round =>
    obtain ⟨rfl, rfl, HW⟩ := hrel
    go_wp2_with fail
    go_ret
    exact ⟨rfl, by rw [HW.out]; exact Below.refl _ _⟩
end Go.Proofs.YtoojimfimlpplaaGreatDoor

set_option linter.unusedVariables false
namespace Go.Proofs.YtoojimfimlpplaaGreatDoor
open Go.RowKit Go.Deep

section
variable {P : Program} {w : World}
theorem run_append_nil (t ty e : TypeId) (i : TypeInfo) (ht : P.underlying t = some (.slice e)) (hi : P.info? e = some i) {base size n : Nat} {v : Value} {xs : List Value} (hown : w.ownsRow base e size v n xs) :
    (Builtin.append_ #[t, t] ty #[v, .slice none 0 0]).run P w = .ok v w := by
  rcases hown.2 with ⟨rfl, _⟩ | ⟨g, cap, cur, rfl, _, _, hc, _⟩
  · simp [Builtin.append_, run_underlying ht, sizeOf, typeInfo, hi, Builtin.lenOf, run_firstCells_none]
  · simp [Builtin.append_, run_underlying ht, sizeOf, typeInfo, hi, Builtin.lenOf, run_firstCells_none, hc, storeCells]
theorem wpList_append_nil {ops : Array Oper} {rest : List Oper} {o : Oper} {a : Act} {Q : Exit → Act → World → Prop} (hgd : o.guard = none) (s x : Operand) (t : TypeId)
    (ho : o.op = .call { callee := .builtin .append, args := #[s, x], argTypes := #[t, t] })
    (base : Nat) (e : TypeId) (i : TypeInfo) (size : Nat) (ht : P.underlying t = some (.slice e)) (hi : P.info? e = some i)
    (v : Value) (n : Nat) (xs : List Value) (hs : a.eval s = v) (hown : w.ownsRow base e size v n xs) (hx : a.eval x = .slice none 0 0)
    (h : wpList P ops Q rest (a.put o.dst v) w) : wpList P ops Q (o :: rest) a w := by
  have hr := run_append_nil (P := P) (w := w) t o.type e i ht hi hown
  refine wpList_plain hgd fun K hK => ?_
  unfold Oper.wp execOp
  simp only [ho, resolve, invoke, builtin, Sem.run_bind, Sem.run_pure, Result.andThen_ok, List.map_toArray, List.map_cons, List.map_nil, hs, hx, hr]
  exact hK _ _ h
end

set_option maxHeartbeats 8000000 in
set_option maxRecDepth 100000 in
theorem specL5AddNil (p : PeakV) (w : World) :
    Calls Tryz.prog 53 #[.slice none 0 0, peakVal p] w fun e w' => ∃ v, e = .returned v ∧ PRow w.heap.size v (addP [] p) w' ∧ Below w.heap.size w w' := by
  obtain ⟨i0, hi, hz0, hz1, hz2⟩ := info3 infoPeak
  have HAD : Hid (addP [] p = [p]) := addP_nil p
  generalize addP [] p = A at HAD ⊢
  unfold peakVal
  have C0 : Hid (CBk ((w.alloc (.cells #[.string p.sum, .int .i64 p.work, .int .i64 p.count] 31)).alloc (.cells #[] 31)) w.heap.size 31 #[.string p.sum, .int .i64 p.work, .int .i64 p.count]) := (CBk.new w _ _).alloc _
  have L0 : Hid (Below w.heap.size w ((w.alloc (.cells #[.string p.sum, .int .i64 p.work, .int .i64 p.count] 31)).alloc (.cells #[] 31))) := ((Below.refl _ w).alloc (Nat.le_refl _) _).alloc (by simp) _
  have R0 : Hid (((w.alloc (.cells #[.string p.sum, .int .i64 p.work, .int .i64 p.count] 31)).alloc (.cells #[] 31)).ownsRow (w.heap.size + 1) 31 3 (.slice (some ⟨w.heap.size + 1, 0, none⟩) 0 0) 0 []) := by
    have := (frow_new pEnc 31 3 (w.alloc (.cells #[.string p.sum, .int .i64 p.work, .int .i64 p.count] 31))).2
    rwa [show (w.alloc (.cells #[.string p.sum, .int .i64 p.work, .int .i64 p.count] 31)).heap.size = w.heap.size + 1 from by simp] at this
  have HZ : Hid (((w.alloc (.cells #[.string p.sum, .int .i64 p.work, .int .i64 p.count] 31)).alloc (.cells #[] 31)).heap.size = w.heap.size + 2) := by show _ = _; simp
  go_enter Tryz.func53, Tryz.ntmps53
  obtain ⟨g3, hg3⟩ : ∃ g3, g3 = w.heap.size := ⟨_, rfl⟩
  have HG3 : Hid (g3 = w.heap.size) := hg3
  go_wp2_with (at_builtin; refine wpList_append_nil rfl _ _ 26 rfl (w.heap.size + 1) 31 i0 3 Tryz.underlying26 hi _ 0 [] (by rfl) R0.out (by rfl) ?_)
  generalize ((w.alloc (.cells #[.string p.sum, .int .i64 p.work, .int .i64 p.count] 31)).alloc (.cells #[] 31)) = W1 at C0 L0 R0 HZ ⊢
  rw [show w.heap.size = g3 from hg3.symm] at C0 ⊢
  clear hg3
  go_wp2_with fail
  go_loopw [5] (fun out wr => out = .slice (some ⟨g3 + 1, 0, none⟩) 0 0 ∧ Hid (wr = W1)) (fun _ _ => 0)
  case atStart => exact ⟨rfl, rfl⟩
  case round =>
    obtain ⟨rfl, HW⟩ := hrel
    have hx1 : 0 + 1 ≤ maxLen := by unfold maxLen; omega
    have hx2 : (0 + 1) * 32 ≤ 140737488355328 := by omega
    have hu := pEnc_one p
    have CR : Hid (CBk wr g3 31 #[.string p.sum, .int .i64 p.work, .int .i64 p.count]) := by rw [HW.out]; exact C0.out
    have HB : Hid (Below w.heap.size w wr) := by rw [HW.out]; exact L0.out
    have hsz : w.heap.size + 1 ≤ wr.heap.size := by rw [HW.out]; have := HZ.out; omega
    have HRW : Hid (wr.drew.ownsRow (w.heap.size + 1) 31 3 (.slice (some ⟨g3 + 1, 0, none⟩) 0 0) 0 []) := by rw [HW.out, HG3.out]; exact R0.out
    clear C0 L0 R0 HZ HW
    obtain ⟨d0, d1, d2⟩ := CR.out.cells3
    go_wp2_with fail
    go_big_region
    obtain ⟨d0, d1, d2⟩ := CR.out.cells3
    go_wp2_with (at_builtin; rw [drewAlloc]; refine wp_appN rfl _ _ 26 rfl (w.heap.size + 1) 31 i0 (.agg #[.string ⟨#[]⟩, .int .i64 0, .int .i64 0]) 3 32 1 Tryz.underlying26 hi hz0 hz1 hz2 rfl (by decide) (by decide) (.slice (some ⟨g3 + 1, 0, none⟩) 0 0) 0 _ rfl HRW.out (pEnc p) (by first | rfl | simp [Act.eval]) rfl hu hx1 hx2 hsz ?_; intro g6 c6 w6 hown6 hb6 hkeep6)
    have R6 : Hid (PRow w.heap.size (.slice (some ⟨g6, 0, none⟩) (0 + 1) c6) A w6) := by
      have hv : A = [p] := HAD.out
      have : PRow (w.heap.size + 1) (.slice (some ⟨g6, 0, none⟩) (0 + 1) c6) [p] w6 := FRow.of (by simpa using hown6) rfl
      rw [hv]
      exact this.mono (Nat.le_succ _)
    have B6 : Hid (Below w.heap.size w w6) := HB.out.drew.trans (hb6.mono (Nat.le_succ _))
    clear hown6 hb6 hkeep6
    go_wp2_with fail
    go_ret
    exact ⟨_, rfl, R6.out, B6.out⟩

theorem leaf_range {p : PeakV} (hk : peakOkB p = true) (h1 : p.count = 1) : rangeOkB [p] = true := by
  have h2 : twoB 1 = true := by decide
  simp [rangeOkB, stepOk, cntTo, hk, h2, h1, List.range_succ]

end Go.Proofs.YtoojimfimlpplaaGreatDoor

set_option linter.unusedVariables false
namespace Go.Proofs.YtoojimfimlpplaaGreatDoor
open Go.RowKit Go.Deep

/-- Peaks with so many more. -/
def moreP (ps ms : List PeakV) : Nat → List PeakV
  | 0 => ps
  | k + 1 => addP (moreP ps ms k) (ms.getD k default)
def prefixB (ps : List PeakV) (root : ByteArray) (ms : List PeakV) : Bool :=
  (rangeOkB ps && stepsB ms) && (rangeOkB (moreP ps ms ms.length) && decide ((⟨(rangeRoot (moreP ps ms ms.length)).toArray⟩ : ByteArray) = root))
theorem prefix_no {ps : List PeakV} {root : ByteArray} {ms : List PeakV} (h : (rangeOkB ps && stepsB ms) = false) : prefixB ps root ms = false := by rw [prefixB, h]; rfl
theorem prefix_bad {ps : List PeakV} {root : ByteArray} {ms : List PeakV} (h : rangeOkB (moreP ps ms ms.length) = false) : prefixB ps root ms = false := by rw [prefixB, h]; simp
theorem prefix_yes {ps : List PeakV} {root : ByteArray} {ms : List PeakV} (h1 : rangeOkB ps = true) (h2 : stepsB ms = true) (h3 : rangeOkB (moreP ps ms ms.length) = true) : prefixB ps root ms = decide ((⟨(rangeRoot (moreP ps ms ms.length)).toArray⟩ : ByteArray) = root) := by rw [prefixB, h1, h2, h3]; rfl
theorem wide_both {a b : PeakV} (ha : Wide a) (hb : Wide b) (h : a.count + b.count ≤ 1000) : Wide (bothP a b) := by
  have h1 := wide_in ha
  have h2 := wide_in hb
  refine ⟨isSum_both a b, ?_⟩
  show 1 ≤ a.count + b.count ∧ a.count + b.count ≤ 1000 ∧ a.count + b.count ≤ a.work + b.work ∧ a.work + b.work ≤ (a.count + b.count) * 8
  omega
theorem sumC_posW : ∀ (r : List PeakV), (∀ q ∈ r, Wide q) → 0 ≤ sumC r
  | [], _ => Int.le_refl _
  | x :: r, h => by
    have h1 := wide_in (h x (List.mem_cons_self ..))
    have h2 := sumC_posW r (fun q hq => h q (List.mem_cons_of_mem _ hq))
    simp only [sumC]
    omega
theorem addR_wide : ∀ (r : List PeakV) (p : PeakV), (∀ q ∈ r, Wide q) → Wide p → sumC r + p.count ≤ 1000 → ∀ q ∈ addR r p, Wide q
  | [], p, _, hp, _, q, hq => by rw [List.mem_singleton.1 hq]; exact hp
  | x :: r, p, hr, hp, hs, q, hq => by
    have h1 := hr x (List.mem_cons_self ..)
    have h2 := fun y hy => hr y (List.mem_cons_of_mem _ hy)
    have h3 := sumC_posW r h2
    simp only [sumC] at hs
    unfold addR at hq
    split at hq
    · exact addR_wide r (bothP x p) h2 (wide_both h1 hp (by omega)) (by simp only [bothP]; omega) q hq
    · rcases List.mem_cons.1 hq with rfl | h4
      · exact hp
      · exact hr q h4
theorem addP_wide {ps : List PeakV} {p : PeakV} (hr : ∀ q ∈ ps, Wide q) (hp : Wide p) (h : cntTo ps ps.length + p.count ≤ 1000) : ∀ q ∈ addP ps p, Wide q := by
  intro q hq
  rw [cnt_all] at h
  exact addR_wide ps.reverse p (fun y hy => hr y (List.mem_reverse.1 hy)) hp h q (List.mem_reverse.1 hq)
/-- What stands with so many more: wide peaks, few enough. -/
structure MoreW (l : List PeakV) (k : Nat) : Prop where
  w : ∀ q ∈ l, Wide q
  c : cntTo l l.length ≤ 20 + 20 * (k : Int)
  n : l.length ≤ 20 + k
theorem MoreW.at {l : List PeakV} {k : Nat} (h : MoreW l k) (i : Nat) (hi : i < l.length) : Wide (l.getD i default) := getD_all (C := fun q => Wide q) h.w i hi
theorem more_wide {ps ms : List PeakV} (hr : rangeOkB ps = true) (hs : stepsB ms = true) : ∀ k, k ≤ ms.length → MoreW (moreP ps ms k) k
  | 0, _ => by
    refine ⟨fun q hq => ?_, ?_, ?_⟩
    · have hq2 : q ∈ ps := hq
      obtain ⟨j, hj, rfl⟩ := List.mem_iff_getElem.1 hq2
      have := rangeOk_peak hr j hj
      rw [List.getD_eq_getElem?_getD, List.getElem?_eq_getElem hj] at this
      exact wide_ok this
    · have := range_cnt hr
      show cntTo ps ps.length ≤ 20 + 20 * ((0 : Nat) : Int)
      omega
    · exact range_len hr
  | k + 1, hk => by
    have ih := more_wide hr hs k (by omega)
    have h8 := steps_len hs
    have hp := steps_at hs k (by omega)
    have hpi := peakOk_in hp
    have hc := ih.c
    refine ⟨addP_wide ih.w (wide_ok hp) (by omega), ?_, ?_⟩
    · show cntTo (addP _ _) (addP _ _).length ≤ _
      rw [addP_cnt]
      push_cast
      omega
    · have := addP_len (moreP ps ms k) (ms.getD k default)
      have := ih.n
      show (addP _ _).length ≤ _
      omega
theorem more_room {ps ms : List PeakV} (hr : rangeOkB ps = true) (hs : stepsB ms = true) (k : Nat) (hk : k < ms.length) : RoomW (moreP ps ms k) (moreP ps ms k).length (ms.getD k default) := by
  have h8 := steps_len hs
  have hp := steps_at hs k hk
  have hpi := peakOk_in hp
  have ih := more_wide hr hs k (by omega)
  have hc := ih.c
  exact ⟨wide_ok hp, by omega⟩

end Go.Proofs.YtoojimfimlpplaaGreatDoor

set_option linter.unusedVariables false
namespace Go.Proofs.YtoojimfimlpplaaGreatDoor
open Go.RowKit Go.Deep

/-- The last peak of the first heads is no half of one that begins behind them. -/
theorem of_last {l : List HeadV} {a j : Nat} (h : 2 ^ (j + 1) ∣ a) : ofP l a = [] ∨ ∃ ps q, ofP l a = ps ++ [q] ∧ ¬ q.count = ((2 ^ j : Nat) : Int) := by
  obtain ⟨t, t1, t2, _⟩ := stk_shp (leafF_cnt l) 0 a
  rw [stk_peaks t1]
  cases t with
  | nil => exact .inl rfl
  | cons s r =>
    refine .inr ⟨peaksT (leafF l) r, treeT (leafF l) s.1 s.2, peaksT_cons _ _ _, ?_⟩
    rw [treeT_cnt (leafF_cnt l)]
    intro he
    have hs : s.2 = j := pow_same (by omega)
    obtain ⟨h1, _, h3⟩ := t2
    have h4 := shp_dvd r s.1 (s.2 + 1) h3
    rw [hs] at h4 h1
    rw [← h1] at h
    have h6 := (Nat.dvd_add_right h4).1 h
    have h7 := Nat.le_of_dvd (Nat.two_pow_pos j) h6
    have h8 : 2 ^ (j + 1) = 2 ^ j + 2 ^ j := by rw [Nat.pow_succ']; omega
    have := Nat.two_pow_pos j
    omega
theorem add_two {ps : List PeakV} {p q : PeakV} {c : Int} (hp : p.count = c) (hq : q.count = c) (h : ps = [] ∨ ∃ rs r, ps = rs ++ [r] ∧ ¬ r.count = c) : addP (addP ps p) q = addP ps (bothP p q) := by
  have e : addP ps p = ps ++ [p] := by
    rcases h with rfl | ⟨rs, r, rfl, hr⟩
    · rfl
    · exact addP_no (by rw [hp]; exact hr)
  rw [e, addP_yes (by rw [hp, hq])]
/-- A peak of an aligned place, pushed behind the first heads' peaks. -/
theorem of_tree (l : List HeadV) : ∀ (j a : Nat), 2 ^ j ∣ a → addP (ofP l a) (treeT (leafF l) a j) = ofP l (a + 2 ^ j)
  | 0, a, _ => rfl
  | j + 1, a, h => by
    have e : 2 ^ (j + 1) = 2 ^ j + 2 ^ j := by rw [Nat.pow_succ']; omega
    have h1 : 2 ^ j ∣ a := Nat.dvd_trans (Nat.pow_dvd_pow 2 (Nat.le_succ _)) h
    have h2 : 2 ^ j ∣ a + 2 ^ j := Nat.dvd_add h1 (Nat.dvd_refl _)
    rw [treeT, ← add_two (treeT_cnt (leafF_cnt l) j a) (treeT_cnt (leafF_cnt l) j (a + 2 ^ j)) (of_last h), of_tree l j a h1, of_tree l j (a + 2 ^ j) h2, e, Nat.add_assoc]
theorem more_cons (ps : List PeakV) (p : PeakV) (ms : List PeakV) : ∀ k, moreP ps (p :: ms) (k + 1) = moreP (addP ps p) ms k
  | 0 => rfl
  | k + 1 => by
    rw [moreP, more_cons ps p ms k, moreP]
    rfl
theorem more_app (ps xs ys : List PeakV) : ∀ k, moreP ps (xs ++ ys) (xs.length + k) = moreP (moreP ps xs xs.length) ys k := by
  induction xs generalizing ps with
  | nil => intro k; rw [List.nil_append, List.length_nil, Nat.zero_add]; rfl
  | cons a xs ih =>
    intro k
    rw [List.cons_append, List.length_cons, show xs.length + 1 + k = (xs.length + k) + 1 from by omega, more_cons, ih, more_cons]
theorem high_dvd (k t : Nat) : 2 ^ high k t ∣ k := Nat.dvd_of_mod_eq_zero (alN_dvd k t 5 0 (Nat.mod_one k))
theorem more_pref (l : List HeadV) : ∀ f a, a ≤ l.length → l.length ≤ a + f → moreP (ofP l a) (prefT l f a) (prefT l f a).length = ofP l l.length
  | 0, a, h1, h2 => by
    obtain rfl : a = l.length := by omega
    rfl
  | f + 1, a, h1, h2 => by
    rw [prefT]
    split
    · rename_i hlt
      have hle := high_le (p := a) (t := l.length - a) (by omega)
      have hp := Nat.two_pow_pos (high a (l.length - a))
      rw [List.length_cons, more_cons, of_tree l _ _ (high_dvd _ _), more_pref l f _ (by omega) (by omega)]
    · obtain rfl : a = l.length := by omega
      rfl
/-- How many peaks that are. -/
def numT (n : Nat) : Nat → Nat → Nat
  | 0, _ => 0
  | f + 1, a => if a < n then numT n f (a + 2 ^ high a (n - a)) + 1 else 0
theorem pref_num (l : List HeadV) : ∀ f a, (prefT l f a).length = numT l.length f a
  | 0, a => rfl
  | f + 1, a => by
    rw [prefT, numT]
    split
    · rw [List.length_cons, pref_num l f]
    · rfl
theorem num_few : ∀ (n a : Fin 21), a.val ≤ n.val → numT n.val (n.val - a.val) a.val ≤ 8 := by decide +kernel
theorem num_two : ∀ (n : Fin 21), numT n.val n.val 0 ≤ 8 := by decide +kernel
theorem pref_few {l : List HeadV} (hl : l.length ≤ 20) {a : Nat} (ha : a ≤ l.length) : (prefT l (l.length - a) a).length ≤ 8 := by
  rw [pref_num]
  exact num_few ⟨l.length, by omega⟩ ⟨a, by omega⟩ ha
/-- The work of heads from a place on. -/
def sumD (l : List HeadV) (a : Nat) : Nat → Int
  | 0 => 0
  | k + 1 => sumD l a k + (l.getD (a + k) default).diff
theorem sumD_add (l : List HeadV) (a i : Nat) : ∀ k, sumD l a (i + k) = sumD l a i + sumD l (a + i) k
  | 0 => by simp [sumD]
  | k + 1 => by
    rw [show i + (k + 1) = (i + k) + 1 from by omega, sumD, sumD_add l a i k, sumD, show a + (i + k) = a + i + k from by omega]
    omega
theorem tree_wrk (l : List HeadV) : ∀ (j a : Nat), (treeT (leafF l) a j).work = sumD l a (2 ^ j)
  | 0, a => by
    show (leafF l a).work = sumD l a 1
    simp only [sumD, Nat.add_zero, Int.zero_add]
    rfl
  | j + 1, a => by
    have e : 2 ^ (j + 1) = 2 ^ j + 2 ^ j := by rw [Nat.pow_succ']; omega
    rw [treeT, e, sumD_add]
    show (treeT (leafF l) a j).work + (treeT (leafF l) (a + 2 ^ j) j).work = _
    rw [tree_wrk l j a, tree_wrk l j (a + 2 ^ j)]
theorem cnt_cons (p : PeakV) (ps : List PeakV) : ∀ k, cntTo (p :: ps) (k + 1) = p.count + cntTo ps k
  | 0 => by simp [cntTo]
  | k + 1 => by
    rw [cntTo, cnt_cons p ps k, cntTo, List.getD_cons_succ]
    omega
theorem wrk_cons (p : PeakV) (ps : List PeakV) : ∀ k, wrkTo (p :: ps) (k + 1) = p.work + wrkTo ps k
  | 0 => by simp [wrkTo]
  | k + 1 => by
    rw [wrkTo, wrk_cons p ps k, wrkTo, List.getD_cons_succ]
    omega
theorem pref_cnt (l : List HeadV) : ∀ f a, a ≤ l.length → l.length ≤ a + f → cntTo (prefT l f a) (prefT l f a).length = ((l.length - a : Nat) : Int) ∧ wrkTo (prefT l f a) (prefT l f a).length = sumD l a (l.length - a) ∧ (prefT l f a).length ≤ l.length - a
  | 0, a, h1, h2 => by
    obtain rfl : a = l.length := by omega
    rw [Nat.sub_self]
    exact ⟨rfl, rfl, Nat.le_refl _⟩
  | f + 1, a, h1, h2 => by
    rw [prefT]
    split
    · rename_i hlt
      have hle := high_le (p := a) (t := l.length - a) (by omega)
      have hp := Nat.two_pow_pos (high a (l.length - a))
      obtain ⟨i1, i2, i3⟩ := pref_cnt l f (a + 2 ^ high a (l.length - a)) (by omega) (by omega)
      have hc := treeT_cnt (leafF_cnt l) (high a (l.length - a)) a
      have hw := tree_wrk l (high a (l.length - a)) a
      generalize 2 ^ high a (l.length - a) = c at hle hp i1 i2 i3 hc hw ⊢
      refine ⟨?_, ?_, ?_⟩
      · rw [List.length_cons, cnt_cons, i1, hc]
        omega
      · rw [List.length_cons, wrk_cons, i2, hw, show l.length - a = c + (l.length - (a + c)) from by omega, sumD_add]
      · rw [List.length_cons]
        omega
    · obtain rfl : a = l.length := by omega
      rw [Nat.sub_self]
      exact ⟨rfl, rfl, Nat.le_refl _⟩
theorem pref_ok {l : List HeadV} (hk : headsB l = true) : ∀ f a, ∀ q ∈ prefT l f a, peakOkB q = true
  | 0, a, q, hq => by cases hq
  | f + 1, a, q, hq => by
    rw [prefT] at hq
    split at hq
    · rename_i hlt
      have hl := heads_len hk
      rcases List.mem_cons.1 hq with rfl | h4
      · have hle := high_le (p := a) (t := l.length - a) (by omega)
        have h5 := high_few (p := a) (t := l.length - a) (by omega) (by omega)
        have hf := tree_fine (f := leafF l) (N := l.length) (fun i hi => fine_leaf (heads_at hk i hi)) (high a (l.length - a)) a (by omega) (by omega)
        refine fine_ok hf ?_
        rw [treeT_cnt (leafF_cnt l)]
        omega
      · exact pref_ok hk f _ q h4
    · cases hq
theorem pref_steps {l : List HeadV} (hk : headsB l = true) {a : Nat} (ha : a ≤ l.length) : stepsB (prefT l (l.length - a) a) = true := by
  refine steps_good (pref_few (heads_len hk) ha) (fun i hi => ?_)
  have := pref_ok hk (l.length - a) a _ (List.getElem_mem hi)
  rwa [List.getD_eq_getElem?_getD, List.getElem?_eq_getElem hi]
theorem of_take (l : List HeadV) (m : Nat) : ∀ k, k ≤ m → m ≤ l.length → ofP (l.take m) k = ofP l k
  | 0, _, _ => rfl
  | k + 1, hk, hm => by
    rw [ofP, ofP, of_take l m k (by omega) hm]
    congr 2
    rw [List.getD_eq_getElem?_getD, List.getElem?_take_of_lt (by omega), ← List.getD_eq_getElem?_getD]
theorem take_heads {l : List HeadV} (hk : headsB l = true) (m : Nat) (h : m ≤ l.length) : headsB (l.take m) = true := by
  have := sub_heads hk 0 m (by omega)
  rwa [List.drop_zero] at this
/-- The range of the first heads, with the peaks behind it, has the root of all. -/
theorem prefix_all {l : List HeadV} (hk : headsB l = true) {m : Nat} (hm : m ≤ l.length) : prefixB (ofP l m) ⟨(rangeRoot (ofP l l.length)).toArray⟩ (prefT l (l.length - m) m) = true := by
  have hl := heads_len hk
  have h1 := more_pref l (l.length - m) m hm (by omega)
  have h2 := ofP_rangeOk (heads_at hk) hl l.length (Nat.le_refl _)
  rw [prefix_yes (ofP_rangeOk (heads_at hk) hl m hm) (pref_steps hk hm) (by rw [h1]; exact h2), h1, decide_eq_true rfl]
/-- From none to the first heads. -/
theorem prefix_none {l : List HeadV} (hk : headsB l = true) : prefixB [] ⟨(rangeRoot (ofP l l.length)).toArray⟩ (prefT l l.length 0) = true := by
  have h := prefix_all hk (Nat.zero_le _)
  rw [Nat.sub_zero] at h
  exact h
/-- From none to the first heads, and from these to all. -/
theorem prefix_two {l : List HeadV} (hk : headsB l = true) {m : Nat} (hm : m ≤ l.length) (h8 : (prefT (l.take m) m 0 ++ prefT l (l.length - m) m).length ≤ 8) : prefixB [] ⟨(rangeRoot (ofP l l.length)).toArray⟩ (prefT (l.take m) m 0 ++ prefT l (l.length - m) m) = true := by
  have hl := heads_len hk
  have hkm := take_heads hk m hm
  have hlm : (l.take m).length = m := by rw [List.length_take]; omega
  have h0 := more_pref (l.take m) m 0 (Nat.zero_le _) (by omega)
  rw [hlm, of_take l m m (Nat.le_refl _) hm] at h0
  have h1 := more_pref l (l.length - m) m hm (by omega)
  have h2 := ofP_rangeOk (heads_at hk) hl l.length (Nat.le_refl _)
  have h3 : moreP [] (prefT (l.take m) m 0 ++ prefT l (l.length - m) m) (prefT (l.take m) m 0 ++ prefT l (l.length - m) m).length = ofP l l.length := by
    rw [List.length_append, more_app]
    have e : moreP [] (prefT (l.take m) m 0) (prefT (l.take m) m 0).length = ofP l m := h0
    rw [e, h1]
  have hst : stepsB (prefT (l.take m) m 0 ++ prefT l (l.length - m) m) = true := by
    refine steps_good h8 (fun i hi => ?_)
    have hmem := List.getElem_mem hi
    rw [List.getD_eq_getElem?_getD, List.getElem?_eq_getElem hi]
    rcases List.mem_append.1 hmem with h | h
    · exact pref_ok hkm m 0 _ h
    · exact pref_ok hk (l.length - m) m _ h
  rw [prefix_yes rfl hst (by rw [h3]; exact h2), h3, decide_eq_true rfl]

end Go.Proofs.YtoojimfimlpplaaGreatDoor

set_option linter.unusedVariables false
namespace Go.Proofs.YtoojimfimlpplaaGreatDoor
open Go.RowKit Go.Deep

set_option maxHeartbeats 4000000 in
set_option maxRecDepth 100000 in
theorem implPrefixCheck (g n cap : Nat) (ps : List PeakV) (root : ByteArray) (g2 n2 cap2 : Nat) (ms : List PeakV) (w : World) (hA : AtP w g ps) (hn : n = ps.length) (hm : n ≤ 1048576) (hA2 : AtP w g2 ms) (hn2 : n2 = ms.length) (hm2 : n2 ≤ 1048576) (hK : RowG w shaK) (hP : TabP w) :
    Calls Tryz.prog 10 #[.slice (some ⟨g, 0, none⟩) n cap, .string root, .slice (some ⟨g2, 0, none⟩) n2 cap2] w fun e w' => e = .returned (.bool (prefixB ps root ms)) ∧ Below w.heap.size w w' := by
  have HA2 : Hid (AtP w g2 ms) := hA2
  have HN2 : Hid (n2 = ms.length) := hn2
  have HM : Hid (n ≤ 1048576) := hm
  have HM2 : Hid (n2 ≤ 1048576) := hm2
  have hok := implRangeOk g n cap ps w hA hn (by omega)
  have HST : Hid (∀ w', Below w.heap.size w w' → Calls Tryz.prog 24 #[.slice (some ⟨g2, 0, none⟩) n2 cap2] w' fun e w'' => e = .returned (.bool (stepsB ms)) ∧ Below w'.heap.size w' w'') := fun w' hb => implStepsOk g2 n2 cap2 ms w' (hA2.below hb hA2.1) hn2 hm2
  have HPS : Hid (rangeOkB ps = true → ∀ (w' : World), Below w.heap.size w w' → Calls Tryz.prog 20 #[.slice (some ⟨g, 0, none⟩) n cap] w' fun e w'' => StackRes w' ps e w'') := fun hr w' hb => implPeakStack g n cap ps w' (hA.below hb hA.1) hn hm (fun i hi => by rw [sum_size (peakOk_sum (peaks_ok hr i hi))]; decide)
  have HPU : Hid (rangeOkB ps = true → stepsB ms = true → ∀ k, k < n2 → ∀ (w' : World) (g4 : Nat), Stk w w' g4 (moreP ps ms k) → Calls Tryz.prog 21 #[.pointer (some ⟨g4, 0, none⟩), peakVal (ms.getD k default)] w' fun e w'' => PushRes w g4 (moreP ps ms (k + 1)) e w'') := fun hr hs k hk w' g4 h4 => by
    have h1 := more_wide hr hs k (by omega)
    have := h1.n
    have := steps_len hs
    exact implPushW w g4 _ _ w' h4 (by omega) (fun i hi => h1.at i hi) (more_room hr hs k (by omega)) hK hP
  have HRR : Hid (∀ (g4 c4 M : Nat) (A : List PeakV) w', AtP w' g4 A → M = A.length → M ≤ 1048576 → Below w.heap.size w w' → Calls Tryz.prog 11 #[.slice (some ⟨g4, 0, none⟩) M c4] w' fun e w'' => e = .returned (.string ⟨(rangeRoot A).toArray⟩) ∧ Below w'.heap.size w' w'') := fun g4 c4 M A w' ha hl hm hb => implRangeRoot g4 M c4 A w' ha hl hm (hK.below hb hK.lt) (TabP.below hP hb (Nat.le_refl _))
  have HNO : Hid ((rangeOkB ps && stepsB ms) = false → prefixB ps root ms = false) := prefix_no
  have HBAD : Hid (rangeOkB (moreP ps ms n2) = false → prefixB ps root ms = false) := by rw [hn2]; exact prefix_bad
  have HYES : Hid (rangeOkB ps = true → stepsB ms = true → rangeOkB (moreP ps ms n2) = true → prefixB ps root ms = decide ((⟨(rangeRoot (moreP ps ms n2)).toArray⟩ : ByteArray) = root)) := by rw [hn2]; exact prefix_yes
  have HLN : Hid (rangeOkB ps = true → stepsB ms = true → (moreP ps ms n2).length ≤ 1048576 ∧ n2 ≤ 8) := fun hr hs => by
    have h1 := (more_wide hr hs n2 (by omega)).n
    have := steps_len hs
    exact ⟨by omega, by omega⟩
  generalize prefixB ps root ms = R at HNO HBAD HYES ⊢
  clear hA hn hm hA2 hn2 hm2 hK hP
  go_enter Tryz.func10, Tryz.ntmps10
  go_wp2_with fail
  cases hrk : rangeOkB ps with
  | false =>
    have HV : Hid (R = false) := HNO.out (by rw [hrk]; rfl)
    rw [hrk] at hok
    clear HNO HBAD HYES HPU HPS HST HLN hrk
    refine hok.mono ?_
    rintro e w1 ⟨rfl, b1⟩
    go_wp2_with fail
    go_ret
    exact ⟨by rw [HV.out]; rfl, b1⟩
  | true =>
  have HRK : Hid (rangeOkB ps = true) := hrk
  rw [hrk] at hok
  clear hrk
  refine hok.mono ?_
  rintro e w1 ⟨rfl, b1⟩
  have B1 : Hid (Below w.heap.size w w1) := b1
  have hst := HST.out w1 b1
  clear hok b1
  go_wp2_with fail
  cases hsk : stepsB ms with
  | false =>
    have HV : Hid (R = false) := HNO.out (by rw [HRK.out, hsk]; rfl)
    rw [hsk] at hst
    clear HNO HBAD HYES HPU HPS HST HLN hsk
    refine hst.mono ?_
    rintro e w2 ⟨rfl, b2⟩
    go_wp2_with fail
    go_ret
    exact ⟨by rw [HV.out]; rfl, B1.out.trans (b2.mono B1.out.size)⟩
  | true =>
  have HSK : Hid (stepsB ms = true) := hsk
  have HN8 : Hid (n2 ≤ 8) := (HLN.out HRK.out hsk).2
  have HLA : Hid ((moreP ps ms n2).length ≤ 1048576) := (HLN.out HRK.out hsk).1
  rw [hsk] at hst
  clear hsk HLN
  refine hst.mono ?_
  rintro e w2 ⟨rfl, b2⟩
  have B2 : Hid (Below w.heap.size w w2) := B1.out.trans (b2.mono B1.out.size)
  have hps := HPS.out HRK.out w2 B2.out
  clear hst B1 b2 HST HPS
  go_wp2_with fail
  refine Calls.mono hps ?_
  rintro e w3 ⟨g4, rfl, hs3⟩
  have S3 : Hid (Stk w w3 g4 (moreP ps ms 0)) := hs3.lower B2.out
  clear hps hs3 B2
  have HPU2 : Hid (∀ k, k < n2 → ∀ (w' : World) (g4 : Nat), Stk w w' g4 (moreP ps ms k) → Calls Tryz.prog 21 #[.pointer (some ⟨g4, 0, none⟩), peakVal (ms.getD k default)] w' fun e w'' => PushRes w g4 (moreP ps ms (k + 1)) e w'') := HPU.out HRK.out HSK.out
  have HYES2 : Hid (rangeOkB (moreP ps ms n2) = true → R = decide ((⟨(rangeRoot (moreP ps ms n2)).toArray⟩ : ByteArray) = root)) := HYES.out HRK.out HSK.out
  clear HPU HNO HYES
  unfold peakVal at HPU2
  go_wp2_with fail
  go_loopw [22] (fun i wr => ∃ k : Nat, k ≤ n2 ∧ i = .int .i64 (k : Int) ∧ Hid (Stk w wr g4 (moreP ps ms k))) (fun i _ => n2 - (intOf i).toNat)
  case atStart => exact ⟨0, by omega, rfl, S3⟩
  case round =>
    clear S3
    obtain ⟨k, hk, rfl, SK⟩ := hrel
    by_cases hlt : k < n2
    · have hkl : k < ms.length := by rw [← HN2.out]; exact hlt
      have HAr := HA2.out.below SK.out.b HA2.out.1
      have c0 := AtP.c0 HAr k hkl
      have c1 := AtP.c1 HAr k hkl
      have c2 := AtP.c2 HAr k hkl
      have lk : (k : Int) < (n2 : Int) := by omega
      have lk0 : (0 : Int) ≤ (k : Int) := by omega
      have wk : IntKind.i64.wrap ((k : Int) + 1) = (k : Int) + 1 := by have := HN8.out; rw [IntKind.wrap_i64]; omega
      have HK1 : Hid (k + 1 ≤ n2) := hlt
      have HPUk : Hid _ := HPU2.out k hlt
      clear hkl HAr
      generalize ms.getD k default = p at HPUk c0 c1 c2
      have SA : Hid (Stk w (wr.alloc (.cells #[.string p.sum, .int .i64 p.work, .int .i64 p.count] 31)) g4 (moreP ps ms k)) := SK.out.call ((Below.refl _ wr).alloc (Nat.le_refl _) _)
      have hpu := HPUk.out _ _ SA.out
      clear HPUk SK
      go_wp2_with fail
      refine Calls.mono hpu ?_
      rintro e w4 ⟨rfl, hs4⟩
      have S4 : Hid (Stk w w4 g4 (moreP ps ms (k + 1))) := hs4
      clear hs4 hpu SA c0 c1 c2
      go_wp2_with fail
      go_roundw
      case rel => exact ⟨k + 1, HK1.out, by go_num, S4⟩
      case measure => have := HK1.out; simp [intOf]; omega
    · obtain rfl : k = n2 := by omega
      obtain ⟨r, c, M, hw⟩ := id SK.out
      have SW : Hid (StkW w wr g4 r c M (moreP ps ms k)) := hw
      clear hw SK HPU2
      generalize moreP ps ms k = A at SW HBAD HYES2 HLA
      have hok5 := implRangeOk r M c A wr SW.out.at.1 SW.out.at.2.1 (by have := SW.out.at.2.1; have := HLA.out; omega)
      obtain ⟨a0, a1, a2⟩ := SW.out.outs
      go_wp2_with fail
      cases hra : rangeOkB A with
      | false =>
        have HV : Hid (R = false) := HBAD.out hra
        rw [hra] at hok5
        clear HBAD HYES2 hra
        refine hok5.mono ?_
        rintro e w5 ⟨rfl, b5⟩
        have B5 : Hid (Below w.heap.size w w5) := SW.out.b.trans (b5.mono SW.out.b.size)
        clear b5 a0 a1 a2 hok5 SW
        go_wp2_with fail
        go_ret
        exact ⟨by rw [HV.out]; rfl, B5.out⟩
      | true =>
        have HV : Hid (R = decide ((⟨(rangeRoot A).toArray⟩ : ByteArray) = root)) := HYES2.out hra
        rw [hra] at hok5
        clear HBAD HYES2 hra
        refine hok5.mono ?_
        rintro e w5 ⟨rfl, b5⟩
        have S5 : Hid (StkW w w5 g4 r c M A) := SW.out.call b5
        have hrr := HRR.out r c M A w5 S5.out.at.1 S5.out.at.2.1 (by have := S5.out.at.2.1; have := HLA.out; omega) S5.out.b
        clear b5 a0 a1 a2 hok5 SW HRR
        obtain ⟨a0, a1, a2⟩ := S5.out.outs
        generalize (⟨(rangeRoot A).toArray⟩ : ByteArray) = rt at hrr HV
        go_wp2_with fail
        refine hrr.mono ?_
        rintro e w6 ⟨rfl, b6⟩
        have B6 : Hid (Below w.heap.size w w6) := S5.out.b.trans (b6.mono S5.out.b.size)
        have hsr := sameR rt root
        clear b6 a0 a1 a2 hrr S5
        go_wp2_with fail
        go_ret
        exact ⟨by rw [HV.out, ← hsr]; rfl, B6.out⟩

end Go.Proofs.YtoojimfimlpplaaGreatDoor

set_option linter.unusedVariables false
namespace Go.Proofs.YtoojimfimlpplaaGreatDoor
open Go.RowKit Go.Deep

set_option maxHeartbeats 1000000 in
set_option maxRecDepth 100000 in
theorem implStepsOkNil (w : World) :
    Calls Tryz.prog 24 #[.slice none 0 0] w fun e w' => e = .returned (.bool (stepsB [])) ∧ Below w.heap.size w w' := by
  have hix : Calls Tryz.prog 59 #[.slice none 0 0, .func (.func 41) #[] #[]] w fun e w' => e = .returned (.int .i64 (-1)) ∧ Below w.heap.size w w' := by
    go_enter Tryz.func59, Tryz.ntmps59
    go_wp2_with fail
    go_loopw [8] (fun i wr => i = .int .i64 0 ∧ Hid (Below w.heap.size w wr)) (fun _ _ => 0)
    case atStart => exact ⟨rfl, Below.refl _ _⟩
    case round =>
      obtain ⟨rfl, HB⟩ := hrel
      go_wp2_with fail
      go_ret
      exact ⟨rfl, HB.out⟩
  have hcf : Calls Tryz.prog 40 #[.slice none 0 0, .func (.func 41) #[] #[]] w fun e w' => e = .returned (.bool false) ∧ Below w.heap.size w w' := by
    go_enter Tryz.func40, Tryz.ntmps40
    go_wp2_with fail
    refine hix.mono ?_
    rintro e w1 ⟨rfl, b1⟩
    go_wp2_with fail
    go_ret
    exact ⟨rfl, b1⟩
  clear hix
  go_enter Tryz.func24, Tryz.ntmps24
  go_wp2_with fail
  refine hcf.mono ?_
  rintro e w1 ⟨rfl, b1⟩
  go_wp2_with fail
  go_ret
  exact ⟨rfl, b1⟩

set_option maxHeartbeats 4000000 in
set_option maxRecDepth 100000 in
theorem implPrefixCheckG (B1 B2 : Nat) (v1 : Value) (ps : List PeakV) (root : ByteArray) (a2 : Option Addr) (n2 cap2 : Nat) (ms : List PeakV) (w : World) (h1 : Pks B1 v1 ps w) (h2 : Pks B2 (.slice a2 n2 cap2) ms w) (hm : ps.length ≤ 1048576) (hm2 : ms.length ≤ 1048576) (hK : RowG w shaK) (hP : TabP w) :
    Calls Tryz.prog 10 #[v1, .string root, .slice a2 n2 cap2] w fun e w' => e = .returned (.bool (prefixB ps root ms)) ∧ Below w.heap.size w w' := by
  have hn2 : n2 = ms.length := by
    rcases h2 with ⟨hv, rfl⟩ | ⟨g, c, hv, _⟩
    · simp only [Value.slice.injEq] at hv
      exact hv.2.1
    · simp only [Value.slice.injEq] at hv
      exact hv.2.1
  have HEL : Hid (∀ k, k < n2 → ∃ g2, a2 = some ⟨g2, 0, none⟩ ∧ AtP w g2 ms) := fun k hk => by
    rcases h2 with ⟨hv, rfl⟩ | ⟨g, c, hv, ha, _⟩
    · rw [hn2] at hk
      exact absurd hk (Nat.not_lt_zero _)
    · simp only [Value.slice.injEq] at hv
      exact ⟨g, hv.1, ha⟩
  have HN2 : Hid (n2 = ms.length) := hn2
  have hok : Calls Tryz.prog 23 #[v1] w fun e w' => e = .returned (.bool (rangeOkB ps)) ∧ Below w.heap.size w w' := by
    rcases h1 with ⟨rfl, rfl⟩ | ⟨g, c, rfl, ha, _⟩
    · exact implRangeOkNil [] rfl w
    · exact implRangeOk g ps.length c ps w ha rfl (by omega)
  have HST : Hid (∀ w', Below w.heap.size w w' → Calls Tryz.prog 24 #[.slice a2 n2 cap2] w' fun e w'' => e = .returned (.bool (stepsB ms)) ∧ Below w'.heap.size w' w'') := fun w' hb => by
    rcases h2 with ⟨hv, rfl⟩ | ⟨g, c, hv, ha, _⟩
    · rw [hv]
      exact implStepsOkNil w'
    · rw [hv]
      exact implStepsOk g ms.length c ms w' (ha.below hb ha.1) rfl hm2
  have HPS : Hid (rangeOkB ps = true → ∀ (w' : World), Below w.heap.size w w' → Calls Tryz.prog 20 #[v1] w' fun e w'' => StackRes w' ps e w'') := fun hr w' hb => by
    rcases h1 with ⟨rfl, rfl⟩ | ⟨g, c, rfl, ha, _⟩
    · exact implPeakStackNil w'
    · exact implPeakStack g ps.length c ps w' (ha.below hb ha.1) rfl hm (fun i hi => by rw [sum_size (peakOk_sum (peaks_ok hr i hi))]; decide)
  have HPU : Hid (rangeOkB ps = true → stepsB ms = true → ∀ k, k < n2 → ∀ (w' : World) (g4 : Nat), Stk w w' g4 (moreP ps ms k) → Calls Tryz.prog 21 #[.pointer (some ⟨g4, 0, none⟩), peakVal (ms.getD k default)] w' fun e w'' => PushRes w g4 (moreP ps ms (k + 1)) e w'') := fun hr hs k hk w' g4 h4 => by
    have h1 := more_wide hr hs k (by omega)
    have := h1.n
    have := steps_len hs
    exact implPushW w g4 _ _ w' h4 (by omega) (fun i hi => h1.at i hi) (more_room hr hs k (by omega)) hK hP
  have HRR : Hid (∀ (g4 c4 M : Nat) (A : List PeakV) w', AtP w' g4 A → M = A.length → M ≤ 1048576 → Below w.heap.size w w' → Calls Tryz.prog 11 #[.slice (some ⟨g4, 0, none⟩) M c4] w' fun e w'' => e = .returned (.string ⟨(rangeRoot A).toArray⟩) ∧ Below w'.heap.size w' w'') := fun g4 c4 M A w' ha hl hm hb => implRangeRoot g4 M c4 A w' ha hl hm (hK.below hb hK.lt) (TabP.below hP hb (Nat.le_refl _))
  have HNO : Hid ((rangeOkB ps && stepsB ms) = false → prefixB ps root ms = false) := prefix_no
  have HBAD : Hid (rangeOkB (moreP ps ms n2) = false → prefixB ps root ms = false) := by rw [hn2]; exact prefix_bad
  have HYES : Hid (rangeOkB ps = true → stepsB ms = true → rangeOkB (moreP ps ms n2) = true → prefixB ps root ms = decide ((⟨(rangeRoot (moreP ps ms n2)).toArray⟩ : ByteArray) = root)) := by rw [hn2]; exact prefix_yes
  have HLN : Hid (rangeOkB ps = true → stepsB ms = true → (moreP ps ms n2).length ≤ 1048576 ∧ n2 ≤ 8) := fun hr hs => by
    have h1 := (more_wide hr hs n2 (by omega)).n
    have := steps_len hs
    exact ⟨by omega, by omega⟩
  generalize prefixB ps root ms = R at HNO HBAD HYES ⊢
  clear h1 h2 hm hn2 hm2 hK hP
  go_enter Tryz.func10, Tryz.ntmps10
  go_wp2_with fail
  cases hrk : rangeOkB ps with
  | false =>
    have HV : Hid (R = false) := HNO.out (by rw [hrk]; rfl)
    rw [hrk] at hok
    clear HNO HBAD HYES HPU HPS HST HLN hrk
    refine hok.mono ?_
    rintro e w1 ⟨rfl, b1⟩
    go_wp2_with fail
    go_ret
    exact ⟨by rw [HV.out]; rfl, b1⟩
  | true =>
  have HRK : Hid (rangeOkB ps = true) := hrk
  rw [hrk] at hok
  clear hrk
  refine hok.mono ?_
  rintro e w1 ⟨rfl, b1⟩
  have B1 : Hid (Below w.heap.size w w1) := b1
  have hst := HST.out w1 b1
  clear hok b1
  go_wp2_with fail
  cases hsk : stepsB ms with
  | false =>
    have HV : Hid (R = false) := HNO.out (by rw [HRK.out, hsk]; rfl)
    rw [hsk] at hst
    clear HNO HBAD HYES HPU HPS HST HLN hsk
    refine hst.mono ?_
    rintro e w2 ⟨rfl, b2⟩
    go_wp2_with fail
    go_ret
    exact ⟨by rw [HV.out]; rfl, B1.out.trans (b2.mono B1.out.size)⟩
  | true =>
  have HSK : Hid (stepsB ms = true) := hsk
  have HN8 : Hid (n2 ≤ 8) := (HLN.out HRK.out hsk).2
  have HLA : Hid ((moreP ps ms n2).length ≤ 1048576) := (HLN.out HRK.out hsk).1
  rw [hsk] at hst
  clear hsk HLN
  refine hst.mono ?_
  rintro e w2 ⟨rfl, b2⟩
  have B2 : Hid (Below w.heap.size w w2) := B1.out.trans (b2.mono B1.out.size)
  have hps := HPS.out HRK.out w2 B2.out
  clear hst B1 b2 HST HPS
  go_wp2_with fail
  refine Calls.mono hps ?_
  rintro e w3 ⟨g4, rfl, hs3⟩
  have S3 : Hid (Stk w w3 g4 (moreP ps ms 0)) := hs3.lower B2.out
  clear hps hs3 B2
  have HPU2 : Hid (∀ k, k < n2 → ∀ (w' : World) (g4 : Nat), Stk w w' g4 (moreP ps ms k) → Calls Tryz.prog 21 #[.pointer (some ⟨g4, 0, none⟩), peakVal (ms.getD k default)] w' fun e w'' => PushRes w g4 (moreP ps ms (k + 1)) e w'') := HPU.out HRK.out HSK.out
  have HYES2 : Hid (rangeOkB (moreP ps ms n2) = true → R = decide ((⟨(rangeRoot (moreP ps ms n2)).toArray⟩ : ByteArray) = root)) := HYES.out HRK.out HSK.out
  clear HPU HNO HYES
  unfold peakVal at HPU2
  go_wp2_with fail
  go_loopw [22] (fun i wr => ∃ k : Nat, k ≤ n2 ∧ i = .int .i64 (k : Int) ∧ Hid (Stk w wr g4 (moreP ps ms k))) (fun i _ => n2 - (intOf i).toNat)
  case atStart => exact ⟨0, by omega, rfl, S3⟩
  case round =>
    clear S3
    obtain ⟨k, hk, rfl, SK⟩ := hrel
    by_cases hlt : k < n2
    · have hkl : k < ms.length := by rw [← HN2.out]; exact hlt
      obtain ⟨g2, ha2, HA2⟩ := HEL.out k hlt
      subst ha2
      have HAr := HA2.below SK.out.b HA2.1
      have c0 := AtP.c0 HAr k hkl
      have c1 := AtP.c1 HAr k hkl
      have c2 := AtP.c2 HAr k hkl
      have lk : (k : Int) < (n2 : Int) := by omega
      have lk0 : (0 : Int) ≤ (k : Int) := by omega
      have wk : IntKind.i64.wrap ((k : Int) + 1) = (k : Int) + 1 := by have := HN8.out; rw [IntKind.wrap_i64]; omega
      have HK1 : Hid (k + 1 ≤ n2) := hlt
      have HPUk : Hid _ := HPU2.out k hlt
      clear hkl HAr HA2 HEL
      generalize ms.getD k default = p at HPUk c0 c1 c2
      have SA : Hid (Stk w (wr.alloc (.cells #[.string p.sum, .int .i64 p.work, .int .i64 p.count] 31)) g4 (moreP ps ms k)) := SK.out.call ((Below.refl _ wr).alloc (Nat.le_refl _) _)
      have hpu := HPUk.out _ _ SA.out
      clear HPUk SK
      go_wp2_with fail
      refine Calls.mono hpu ?_
      rintro e w4 ⟨rfl, hs4⟩
      have S4 : Hid (Stk w w4 g4 (moreP ps ms (k + 1))) := hs4
      clear hs4 hpu SA c0 c1 c2
      go_wp2_with fail
      go_roundw
      case rel => exact ⟨k + 1, HK1.out, by go_num, S4⟩
      case measure => have := HK1.out; simp [intOf]; omega
    · obtain rfl : k = n2 := by omega
      obtain ⟨r, c, M, hw⟩ := id SK.out
      have SW : Hid (StkW w wr g4 r c M (moreP ps ms k)) := hw
      clear hw SK HPU2
      generalize moreP ps ms k = A at SW HBAD HYES2 HLA
      have hok5 := implRangeOk r M c A wr SW.out.at.1 SW.out.at.2.1 (by have := SW.out.at.2.1; have := HLA.out; omega)
      obtain ⟨a0, a1, a2⟩ := SW.out.outs
      go_wp2_with fail
      cases hra : rangeOkB A with
      | false =>
        have HV : Hid (R = false) := HBAD.out hra
        rw [hra] at hok5
        clear HBAD HYES2 hra
        refine hok5.mono ?_
        rintro e w5 ⟨rfl, b5⟩
        have B5 : Hid (Below w.heap.size w w5) := SW.out.b.trans (b5.mono SW.out.b.size)
        clear b5 a0 a1 a2 hok5 SW
        go_wp2_with fail
        go_ret
        exact ⟨by rw [HV.out]; rfl, B5.out⟩
      | true =>
        have HV : Hid (R = decide ((⟨(rangeRoot A).toArray⟩ : ByteArray) = root)) := HYES2.out hra
        rw [hra] at hok5
        clear HBAD HYES2 hra
        refine hok5.mono ?_
        rintro e w5 ⟨rfl, b5⟩
        have S5 : Hid (StkW w w5 g4 r c M A) := SW.out.call b5
        have hrr := HRR.out r c M A w5 S5.out.at.1 S5.out.at.2.1 (by have := S5.out.at.2.1; have := HLA.out; omega) S5.out.b
        clear b5 a0 a1 a2 hok5 SW HRR
        obtain ⟨a0, a1, a2⟩ := S5.out.outs
        generalize (⟨(rangeRoot A).toArray⟩ : ByteArray) = rt at hrr HV
        go_wp2_with fail
        refine hrr.mono ?_
        rintro e w6 ⟨rfl, b6⟩
        have B6 : Hid (Below w.heap.size w w6) := S5.out.b.trans (b6.mono S5.out.b.size)
        have hsr := sameR rt root
        clear b6 a0 a1 a2 hrr S5
        go_wp2_with fail
        go_ret
        exact ⟨by rw [HV.out, ← hsr]; rfl, B6.out⟩

end Go.Proofs.YtoojimfimlpplaaGreatDoor

