/-
  Texts that the last part needs, joined.
-/
import Derived.Test.YtoifgpmbeicmnaaGreatDoorPart1
import Derived.Test.YtoifgpmbeicmnaaGreatDoorPart2
import Derived.Test.YtoifgpmbeicmnaaGreatDoorPart3
import Derived.Test.YtoifgpmbeicmnaaGreatDoorPart4
import Derived.Test.YtoifgpmbeicmnaaGreatDoorPart5
import Derived.Test.YtoifgpmbeicmnaaGreatDoorPart6
import Derived.Deep.RegionHeld3
import Derived.Deep.RegionLaw
import Derived.Deep.RegionWith
import Derived.Deep.AppendLies
import Derived.Deep.Cut
import Derived.Laws.EntriesVeiled
set_option linter.unusedVariables false
namespace Go.Proofs.YtoifgpmbeicmnaaGreatDoor
open Go.RowKit Go.Deep

set_option maxHeartbeats 8000000 in
set_option maxRecDepth 100000 in
theorem implPushN (w0 : World) (gp g : Nat) (l : List NodeV) (p : NodeV) (ss : List PeakV) (w : World) (a : Option Addr) (n c : Nat) (h0 : NSt w0 w gp g a n c l ss) (hm : l.length ≤ 1048576) (hk : ∀ i, i < (l.map Prod.fst).length → peakOkB ((l.map Prod.fst).getD i default) = true) (hr : Room (l.map Prod.fst) (l.map Prod.fst).length p.1) (hss : (ss ++ noteS l p).length ≤ 1048576) (hK : RowG w0 shaK) (hP : TabP w0) :
    Calls Tryz.prog 50 #[.pointer (some ⟨g, 0, none⟩), nodeVal p] w fun e w' => NPush w0 gp g (addS l p) (ss ++ noteS l p) e w' := by
  obtain ⟨i0, hi, hz0, hz1, hz2⟩ := info3 infoNode
  have HN : Hid (n = l.length) := h0.len.symm
  have HM0 : Hid (n ≤ 1048576) := by show _ ≤ _; have := h0.len; omega
  have HBO : Hid (∀ (w' : World) (s' : List PeakV) (x y : NodeV), Pf w0 w' gp s' → s'.length ≤ 1048576 → peakOkB x.1 = true → peakOkB y.1 = true → Calls Tryz.prog 48 #[.agg #[.string x.1.sum, .int .i64 x.1.work, .int .i64 x.1.count, .bool x.2], .agg #[.string y.1.sum, .int .i64 y.1.work, .int .i64 y.1.count, .bool y.2], .pointer (some ⟨gp, 0, none⟩)] w' fun e w'' => e = .returned (.agg #[.string (bothN x y).1.sum, .int .i64 (bothN x y).1.work, .int .i64 (bothN x y).1.count, .bool (bothN x y).2]) ∧ Pf w0 w'' gp (s' ++ noteN x y) ∧ Off gp w' w'') := fun w' s' x y h1 h2 h3 h4 => implNodeBoth w0 w' gp s' x y h1 h2 h3 h4 hK hP
  have HKP : Hid (∀ i, i < (l.map Prod.fst).length → peakOkB ((l.map Prod.fst).getD i default) = true) := hk
  have HLM : Hid ((l.map Prod.fst).length = l.length) := List.length_map ..
  have HR0 : Hid (Room (l.map Prod.fst) n p.1) := by show Room _ _ _; rw [HN.out, ← HLM.out]; exact hr
  have HAD : Hid (addS (l.take n) p = addS l p) := by show _ = _; rw [HN.out, List.take_length]
  have HNO : Hid (ss ++ noteS (l.take n) p = ss ++ noteS l p) := by show _ = _; rw [HN.out, List.take_length]
  have HSS : Hid ((ss ++ noteS l p).length ≤ 1048576) := hss
  generalize addS l p = A at HAD ⊢
  generalize ss ++ noteS l p = N at HNO HSS ⊢
  have HQ : Hid (∀ w', NPush w0 gp g A N (.returned (.tuple #[])) w' → NPush w0 gp g A N (.returned (.tuple #[])) w') := fun w' h => h
  obtain ⟨Q, hQ⟩ : ∃ Q, Q = NPush w0 gp g A N := ⟨_, rfl⟩
  have HQ2 : Hid (Q = NPush w0 gp g A N) := hQ
  rw [← hQ]
  clear HQ hQ
  have PZ : Hid (PushN w0 (w.alloc (.cells #[.string p.1.sum, .int .i64 p.1.work, .int .i64 p.1.count, .bool p.2] 73)) gp g w.heap.size a n c (l.take n) p ss) := by
    have e : l.take n = l := by rw [HN.out, List.take_length]
    rw [e]
    exact PushN.enter h0 p
  unfold nodeVal
  clear hm hk hr hss hK hP h0
  obtain ⟨⟨a0, a1, a2⟩, x0⟩ := PZ.out.two
  have hw0 : IntKind.i64.wrap ((n : Int) - 1) = (n : Int) - 1 := by have := HM0.out; rw [IntKind.wrap_i64]; omega
  go_enter Tryz.func50, Tryz.ntmps50
  go_wp2_with fail
  clear a0 a1 a2 x0 hw0
  generalize w.alloc (.cells #[.string p.1.sum, .int .i64 p.1.work, .int .i64 p.1.count, .bool p.2] 73) = W0 at PZ ⊢
  obtain ⟨g3, hg3⟩ : ∃ g3, g3 = w.heap.size := ⟨_, rfl⟩
  rw [← hg3] at PZ ⊢
  clear hg3
  clear w
  go_loopw [4] (fun last wr => ∃ (m : Nat) (q : NodeV) (s' : List PeakV), m ≤ n ∧ last = .int .i64 ((m : Int) - 1) ∧ Hid (PushN w0 wr gp g g3 a m c (l.take m) q s') ∧ Hid (addS (l.take m) q = A) ∧ Hid (s' ++ noteS (l.take m) q = N) ∧ Hid (Room (l.map Prod.fst) m q.1)) (fun last _ => (intOf last + 1).toNat)
  case atStart => exact ⟨n, p, ss, Nat.le_refl _, rfl, PZ, HAD, HNO, HR0⟩
  case round =>
    clear PZ HAD HNO HR0
    obtain ⟨m, q, s', hmn, rfl, PW, HAD, HNO, HRM⟩ := hrel
    cases m with
    | zero =>
      have e0 : ((0 : Nat) : Int) - 1 = -1 := rfl
      rw [e0]
      have hd0 : decide ((0 : Int) ≤ -1) = false := by decide
      have HRV0 : Hid (A = l.take 0 ++ [q] ∧ N = s') := ⟨by rw [← HAD.out, List.take_zero, addS_nil]; rfl, by rw [← HNO.out, List.take_zero, noteS_nil, List.append_nil]⟩
      obtain ⟨M, hM⟩ : ∃ M, M = 0 := ⟨_, rfl⟩
      have HM : Hid (M = 0) := hM
      rw [← hM] at PW HRV0
      clear hM hmn HAD HNO HRM
      have HRV : Hid (∀ w', NPush w0 gp g (l.take M ++ [q]) s' (.returned (.tuple #[])) w' → Q (.returned (.tuple #[])) w') := fun w' h => by rw [HQ2.out, HRV0.out.1, HRV0.out.2]; exact h
      clear HRV0
      obtain ⟨⟨a0, a1, a2⟩, d0, d1, d2, d3⟩ := PW.out.two
      go_wp2_with fail
      go_big_region
      have PW1 : Hid (PushN w0 wr.drew gp g g3 a M c (l.take M) q s') := PW.out.drew
      clear a0 a1 a2 d0 d1 d2 d3 PW
      have HLA : Hid ((l.take M).length = M) := PW1.out.k.len
      have hx1 : M + 1 ≤ maxLen := by have h1 := HLA.out; rw [List.length_take] at h1; have h2 := HM0.out; have h3 := HN.out; unfold maxLen; omega
      have hx2 : (M + 1) * 40 ≤ 140737488355328 := by have h1 := HLA.out; rw [List.length_take] at h1; have h2 := HM0.out; have h3 := HN.out; omega
      have PX : Hid (PushN w0 wr.drew.drew gp g g3 a M c (l.take M) q s') := PW1.out.drew
      have PA : Hid (PushN w0 (wr.drew.drew.alloc (.cells (nEnc q).toArray 73)) gp g g3 a M c (l.take M) q s') := PX.out.call ((Below.refl _ _).alloc (Nat.le_refl _) _)
      have hu := nEnc_one q
      have HCN : Hid (∀ j u, (nEnc q)[j]? = some u → (wr.drew.drew.alloc (.cells (nEnc q).toArray 73)).cell? ((⟨wr.drew.heap.size, 0, none⟩ : Addr).add j) = some u) := cells_new wr.drew.drew 73 (nEnc q)
      have HFd : Hid ((wr.drew.drew.alloc (.cells (nEnc q).toArray 73)).ownsRow w0.heap.size 73 4 (.slice a M c) M ((l.take M).flatMap nEnc)) := PA.out.k.row
      have HBZ : Hid (w0.heap.size ≤ (wr.drew.drew.alloc (.cells (nEnc q).toArray 73)).heap.size) := PA.out.k.f.b.size
      have HGT6 : Hid (∀ w6, (wr.drew.drew.alloc (.cells (nEnc q).toArray 73)).grownBy w6 (Value.slice a M c).ownBlock → w6.cell? ⟨g, 0, none⟩ = some (.slice a M c) ∧ w6.frozen? ⟨g, 0, none⟩ = false) := fun w6 h => ⟨(PA.out.grown h).cell 0, (PA.out.grown h).frozen 0⟩
      have HAP : Hid (∀ (w6 : World) (g6 c6 : Nat), w6.ownsRow w0.heap.size 73 4 (.slice (some ⟨g6, 0, none⟩) (M + 1) c6) (M + 1) ((l.take M).flatMap nEnc ++ nEnc q) → (wr.drew.drew.alloc (.cells (nEnc q).toArray 73)).grownBy w6 (Value.slice a M c).ownBlock → Q (.returned (.tuple #[])) (w6.setCell ⟨g, 0, none⟩ (.slice (some ⟨g6, 0, none⟩) (M + 1) c6))) := fun w6 g6 c6 h1 h2 => HRV.out _ (npush_res (PA.out.app h1 h2))
      have ba0 : (wr.alloc (.cells #[.string q.1.sum, .int .i64 q.1.work, .int .i64 q.1.count, .bool q.2] 73)).cell? ⟨g, 0, none⟩ = some (.slice a M c) := (Below.cell ((Below.refl _ wr).alloc (Nat.le_refl _) _) (p := ⟨g, 0, none⟩) PW1.out.k.s.lt).trans PW1.out.k.outs.1
      clear PW1
      obtain ⟨⟨a0, a1, a2⟩, d0, d1, d2, d3⟩ := PX.out.two
      clear PX PA
      go_wp2_with fail
      go_region_law (refine step_append_lies _ rfl (.tmp 56) (.tmp 58) 78 rfl w0.heap.size 73 i0 (.agg #[.string ⟨#[]⟩, .int .i64 0, .int .i64 0, .bool false]) 4 40 Tryz.underlying78 hi hz0 hz1 hz2 rfl (by decide) (.slice a M c) M ((l.take M).flatMap nEnc) (by simp [Act.eval]) HFd.out ⟨wr.drew.heap.size, 0, none⟩ 1 1 (nEnc q) (by simp [Act.eval]) rfl HCN.out hu (by decide) hx1 hx2 HBZ.out _ rfl ?_; intro g6 c6 w6 hown6 hgrow6 hat6 hlt6; clear hat6 hlt6; have K6 : Hid _ := HAP.out w6 g6 c6 hown6 hgrow6; obtain ⟨q6, z6⟩ := HGT6.out w6 hgrow6; clear hown6 hgrow6)
      all_goals
        clear HFd HCN HBZ HGT6 HAP
        go_wp2_with fail
        exact bodyPost_ret (results_none rfl _ _ _) rfl K6.out
    | succ m =>
      have e0 : ((m + 1 : Nat) : Int) - 1 = (m : Int) := by omega
      rw [e0]
      obtain ⟨r, hr⟩ : ∃ r, a = some ⟨r, 0, none⟩ := by
        obtain ⟨r, cap, hv, _⟩ := PW.out.k.row.form (by omega)
        simp only [Value.slice.injEq] at hv
        exact ⟨r, hv.1⟩
      subst hr
      have hml : m < l.length := by rw [← HN.out]; omega
      have hgt : (l.take (m + 1)).getD m default = l.getD m default := by simp
      have hlen : m < (l.take (m + 1)).length := by rw [List.length_take]; omega
      have HKM : Hid (peakOkB (l.getD m default).1 = true) := by
        have := HKP.out m (by rw [HLM.out]; exact hml)
        rw [fst_at hml] at this
        exact this
      have HS : Hid ((l.getD m default).1.count = q.1.count → Room (l.map Prod.fst) m (bothN (l.getD m default) q).1) := fun he => by
        have := HRM.out.step HKP.out (m := m) (by rw [HLM.out]; exact hml) (by rw [fst_at hml]; exact he)
        rw [fst_at hml] at this
        exact this
      have HYES : Hid ((l.getD m default).1.count = q.1.count → addS (l.take m) (bothN (l.getD m default) q) = A ∧ (s' ++ noteN (l.getD m default) q) ++ noteS (l.take m) (bothN (l.getD m default) q) = N) := fun he => by
        rw [← HAD.out, ← HNO.out, takeN_one hml, addS_yes he, noteS_yes he]
        exact ⟨rfl, List.append_assoc ..⟩
      have HNOT : Hid (¬ (l.getD m default).1.count = q.1.count → A = l.take (m + 1) ++ [q] ∧ N = s') := fun he => by
        rw [← HAD.out, ← HNO.out, takeN_one hml, addS_no he, noteS_no he, List.append_nil]
        exact ⟨rfl, rfl⟩
      have HSL : Hid (s'.length ≤ 1048576) := by
        show _ ≤ _
        have h1 := HSS.out
        have h2 := congrArg List.length HNO.out
        rw [List.length_append] at h2
        omega
      have HTT : Hid ((l.take (m + 1)).take m = l.take m) := by show _ = _; rw [List.take_take]; congr 1; omega
      have HLL : Hid (m < (l.take (m + 1)).length) := hlen
      have HGT : Hid ((l.take (m + 1)).getD m default = l.getD m default) := hgt
      have hd0 : decide ((0 : Int) ≤ (m : Int)) = true := decide_eq_true (by omega)
      have hd1 : (0 : Int) ≤ (m : Int) := by omega
      have lm1 : (m : Int) < ((m + 1 : Nat) : Int) := by omega
      obtain ⟨M, hM⟩ : ∃ M, M = m + 1 := ⟨_, rfl⟩
      have HM : Hid (M = m + 1) := hM
      rw [← hM] at lm1
      rw [← hM] at PW HNOT HLL HGT hmn
      have HTT : Hid ((l.take M).take m = l.take m) := by rw [hM]; exact HTT.out
      have HMN : Hid (M ≤ n) := hmn
      have hdn : decide (0 ≤ m) = true := decide_eq_true (by omega)
      have ltm : m < M := by omega
      clear hM hlen hgt hml HAD HNO hmn
      generalize l.getD m default = t at HKM HS HYES HNOT HGT
      obtain ⟨⟨a0, a1, a2⟩, ⟨q0, q1, q2, q3⟩, d0, d1, d2, d3⟩ := PW.out.all HLL.out HGT.out
      have hal := fun w' => implNodeAlike t q w'
      unfold nodeVal at hal
      have PD : Hid (PushN w0 wr.drew gp g g3 (some ⟨r, 0, none⟩) M c (l.take M) q s') := PW.out.drew
      by_cases he : t.1.count = q.1.count
      · have heb : (t.1.count == q.1.count) = true := by simpa using he
        rw [heb] at hal
        have HRM2 : Hid (Room (l.map Prod.fst) m (bothN t q).1) := HS.out he
        have HAD2 : Hid (addS (l.take m) (bothN t q) = A) := (HYES.out he).1
        have HNO2 : Hid ((s' ++ noteN t q) ++ noteS (l.take m) (bothN t q) = N) := (HYES.out he).2
        have HBO2 : Hid (∀ w', Pf w0 w' gp s' → Calls Tryz.prog 48 #[.agg #[.string t.1.sum, .int .i64 t.1.work, .int .i64 t.1.count, .bool t.2], .agg #[.string q.1.sum, .int .i64 q.1.work, .int .i64 q.1.count, .bool q.2], .pointer (some ⟨gp, 0, none⟩)] w' fun e w'' => e = .returned (.agg #[.string (bothN t q).1.sum, .int .i64 (bothN t q).1.work, .int .i64 (bothN t q).1.count, .bool (bothN t q).2]) ∧ Pf w0 w'' gp (s' ++ noteN t q) ∧ Off gp w' w'') := fun w' hb => HBO.out w' s' t q hb HSL.out HKM.out HRM.out.ok
        clear HS HYES HNOT he heb HRM HKM HSL
        go_wp2_with fail
        go_region_held3 (fun w' => (w'.cell? ⟨g, 0, none⟩ = some (.slice (some ⟨r, 0, none⟩) M c) ∧ w'.cell? ⟨g, 1, none⟩ = some (.func (.func 46) #[] #[]) ∧ w'.cell? ⟨g, 2, none⟩ = some (.func (.func 48) #[] #[.pointer (some ⟨gp, 0, none⟩)])) ∧ (w'.cell? ⟨r, m * 4, none⟩ = some (.string t.1.sum) ∧ w'.cell? ⟨r, m * 4 + 1, none⟩ = some (.int .i64 t.1.work) ∧ w'.cell? ⟨r, m * 4 + 2, none⟩ = some (.int .i64 t.1.count) ∧ w'.cell? ⟨r, m * 4 + 3, none⟩ = some (.bool t.2)) ∧ (w'.cell? ⟨g3, 0, none⟩ = some (.string q.1.sum) ∧ w'.cell? ⟨g3, 1, none⟩ = some (.int .i64 q.1.work) ∧ w'.cell? ⟨g3, 2, none⟩ = some (.int .i64 q.1.count) ∧ w'.cell? ⟨g3, 3, none⟩ = some (.bool q.2)))
          (first | exact PW.out.all HLL.out HGT.out | exact PD.out.all HLL.out HGT.out | exact P5.out.all HLL.out HGT.out)
          (first | (go_at_call 46; refine (hal _).mono ?_; rintro e w5 ⟨rfl, b5⟩; have P5 : Hid (PushN w0 w5 gp g g3 (some ⟨r, 0, none⟩) M c (l.take M) q s') := PD.out.call b5))
        clear a0 a1 a2 q0 q1 q2 q3 d0 d1 d2 d3 PW PD b5
        obtain ⟨⟨a0, a1, a2⟩, ⟨q0, q1, q2, q3⟩, d0, d1, d2, d3⟩ := P5.out.all HLL.out HGT.out
        have hlt4 : (m : Int) < (M : Int) := lm1
        go_wp2_with fail
        go_region_with (go_at_call 48; refine (HBO2.out _ (P5.out.drew.k.f)).mono ?_; rintro e w6 ⟨rfl, p6, o6⟩; have P6 : Hid (PushN w0 w6 gp g g3 (some ⟨r, 0, none⟩) M c (l.take M) q (s' ++ noteN t q)) := P5.out.drew.off o6 p6; obtain ⟨m0, m1, m2, m3⟩ := P6.out.o.four; obtain ⟨f0, f1, f2, f3⟩ := CBk.free4 P6.out.o)
        all_goals
          have P7 : Hid _ := P6.out.put (bothN t q)
          generalize bothN t q = nq at P7 HRM2 HAD2 HNO2
          generalize s' ++ noteN t q = s2 at P7 HNO2
          clear a0 a1 a2 q0 q1 q2 q3 d0 d1 d2 d3 m0 m1 m2 m3 f0 f1 f2 f3 p6 o6 P6 P5 HBO2
          generalize ((((w6.setCell ⟨g3, 0, none⟩ (.string (nq).1.sum)).setCell ⟨g3, 1, none⟩ (.int .i64 (nq).1.work)).setCell ⟨g3, 2, none⟩ (.int .i64 (nq).1.count)).setCell ⟨g3, 3, none⟩ (.bool (nq).2)) = w7 at P7 ⊢
          clear w6
          obtain ⟨⟨a0, a1, a2⟩, d0, d1, d2, d3⟩ := P7.out.two
          have z0 := P7.out.k.s.frozen 0
          have lmc : (m : Int) ≤ (c : Int) := by have := P7.out.k.at.2; omega
          have hc0 : ¬ c = 0 := by have := P7.out.k.at.2; omega
          have P8 : Hid (PushN w0 (w7.setCell ⟨g, 0, none⟩ (.slice (some ⟨r, 0, none⟩) m c)) gp g g3 (some ⟨r, 0, none⟩) m c (l.take m) nq s2) := by
            have h1 := P7.out
            rw [HM.out] at h1
            have h2 := h1.pop
            rwa [show (l.take (m + 1)).take m = l.take m from by rw [← HM.out]; exact HTT.out] at h2
          have hw2 : IntKind.i64.wrap ((m : Int) - 1) = (m : Int) - 1 := by have := HMN.out; have := HM0.out; rw [IntKind.wrap_i64]; omega
          clear P7
          go_wp2_with fail
          go_roundw
          case rel => exact ⟨m, nq, s2, by have := HM.out; have := HMN.out; omega, rfl, P8, HAD2, HNO2, HRM2⟩
          case measure => have := HM.out; simp [intOf] <;> omega
      · have heb : (t.1.count == q.1.count) = false := by simpa using he
        rw [heb] at hal
        have HRV0 : Hid (A = l.take M ++ [q] ∧ N = s') := HNOT.out he
        have HRV : Hid (∀ w', NPush w0 gp g (l.take M ++ [q]) s' (.returned (.tuple #[])) w' → Q (.returned (.tuple #[])) w') := fun w' h => by rw [HQ2.out, HRV0.out.1, HRV0.out.2]; exact h
        clear HS HYES HNOT he heb HRM HKM HTT HRV0 HSL
        go_wp2_with fail
        go_region_held3 (fun w' => (w'.cell? ⟨g, 0, none⟩ = some (.slice (some ⟨r, 0, none⟩) M c) ∧ w'.cell? ⟨g, 1, none⟩ = some (.func (.func 46) #[] #[]) ∧ w'.cell? ⟨g, 2, none⟩ = some (.func (.func 48) #[] #[.pointer (some ⟨gp, 0, none⟩)])) ∧ (w'.cell? ⟨r, m * 4, none⟩ = some (.string t.1.sum) ∧ w'.cell? ⟨r, m * 4 + 1, none⟩ = some (.int .i64 t.1.work) ∧ w'.cell? ⟨r, m * 4 + 2, none⟩ = some (.int .i64 t.1.count) ∧ w'.cell? ⟨r, m * 4 + 3, none⟩ = some (.bool t.2)) ∧ (w'.cell? ⟨g3, 0, none⟩ = some (.string q.1.sum) ∧ w'.cell? ⟨g3, 1, none⟩ = some (.int .i64 q.1.work) ∧ w'.cell? ⟨g3, 2, none⟩ = some (.int .i64 q.1.count) ∧ w'.cell? ⟨g3, 3, none⟩ = some (.bool q.2)))
          (first | exact PW.out.all HLL.out HGT.out | exact PD.out.all HLL.out HGT.out | exact P5.out.all HLL.out HGT.out)
          (first | (go_at_call 46; refine (hal _).mono ?_; rintro e w5 ⟨rfl, b5⟩; have P5 : Hid (PushN w0 w5 gp g g3 (some ⟨r, 0, none⟩) M c (l.take M) q s') := PD.out.call b5))
        clear a0 a1 a2 q0 q1 q2 q3 d0 d1 d2 d3 PW PD b5
        have HLA : Hid ((l.take M).length = M) := P5.out.k.len
        have hx1 : M + 1 ≤ maxLen := by have h1 := HLA.out; rw [List.length_take] at h1; have h2 := HM0.out; have h3 := HN.out; unfold maxLen; omega
        have hx2 : (M + 1) * 40 ≤ 140737488355328 := by have h1 := HLA.out; rw [List.length_take] at h1; have h2 := HM0.out; have h3 := HN.out; omega
        have PX : Hid (PushN w0 w5.drew gp g g3 (some ⟨r, 0, none⟩) M c (l.take M) q s') := P5.out.drew
        have PA : Hid (PushN w0 (w5.drew.alloc (.cells (nEnc q).toArray 73)) gp g g3 (some ⟨r, 0, none⟩) M c (l.take M) q s') := PX.out.call ((Below.refl _ _).alloc (Nat.le_refl _) _)
        have hu := nEnc_one q
        have HCN : Hid (∀ j u, (nEnc q)[j]? = some u → (w5.drew.alloc (.cells (nEnc q).toArray 73)).cell? ((⟨w5.heap.size, 0, none⟩ : Addr).add j) = some u) := cells_new w5.drew 73 (nEnc q)
        have HFd : Hid ((w5.drew.alloc (.cells (nEnc q).toArray 73)).ownsRow w0.heap.size 73 4 (.slice (some ⟨r, 0, none⟩) M c) M ((l.take M).flatMap nEnc)) := PA.out.k.row
        have HBZ : Hid (w0.heap.size ≤ (w5.drew.alloc (.cells (nEnc q).toArray 73)).heap.size) := PA.out.k.f.b.size
        have HGT6 : Hid (∀ w6, (w5.drew.alloc (.cells (nEnc q).toArray 73)).grownBy w6 (Value.slice (some ⟨r, 0, none⟩) M c).ownBlock → w6.cell? ⟨g, 0, none⟩ = some (.slice (some ⟨r, 0, none⟩) M c) ∧ w6.frozen? ⟨g, 0, none⟩ = false) := fun w6 h => ⟨(PA.out.grown h).cell 0, (PA.out.grown h).frozen 0⟩
        have HAP : Hid (∀ (w6 : World) (g6 c6 : Nat), w6.ownsRow w0.heap.size 73 4 (.slice (some ⟨g6, 0, none⟩) (M + 1) c6) (M + 1) ((l.take M).flatMap nEnc ++ nEnc q) → (w5.drew.alloc (.cells (nEnc q).toArray 73)).grownBy w6 (Value.slice (some ⟨r, 0, none⟩) M c).ownBlock → Q (.returned (.tuple #[])) (w6.setCell ⟨g, 0, none⟩ (.slice (some ⟨g6, 0, none⟩) (M + 1) c6))) := fun w6 g6 c6 h1 h2 => HRV.out _ (npush_res (PA.out.app h1 h2))
        have ba0 : (w5.alloc (.cells #[.string q.1.sum, .int .i64 q.1.work, .int .i64 q.1.count, .bool q.2] 73)).cell? ⟨g, 0, none⟩ = some (.slice (some ⟨r, 0, none⟩) M c) := (Below.cell ((Below.refl _ w5).alloc (Nat.le_refl _) _) (p := ⟨g, 0, none⟩) P5.out.k.s.lt).trans P5.out.k.outs.1
        clear P5
        obtain ⟨⟨a0, a1, a2⟩, d0, d1, d2, d3⟩ := PX.out.two
        clear PX PA
        go_wp2_with fail
        go_region_law (refine step_append_lies _ rfl (.tmp 56) (.tmp 58) 78 rfl w0.heap.size 73 i0 (.agg #[.string ⟨#[]⟩, .int .i64 0, .int .i64 0, .bool false]) 4 40 Tryz.underlying78 hi hz0 hz1 hz2 rfl (by decide) (.slice (some ⟨r, 0, none⟩) M c) M ((l.take M).flatMap nEnc) (by simp [Act.eval]) HFd.out ⟨w5.heap.size, 0, none⟩ 1 1 (nEnc q) (by simp [Act.eval]) rfl HCN.out hu (by decide) hx1 hx2 HBZ.out _ rfl ?_; intro g6 c6 w6 hown6 hgrow6 hat6 hlt6; clear hat6 hlt6; have K6 : Hid _ := HAP.out w6 g6 c6 hown6 hgrow6; obtain ⟨q6, z6⟩ := HGT6.out w6 hgrow6; clear hown6 hgrow6)
        all_goals
          clear HFd HCN HBZ HGT6 HAP
          go_wp2_with fail
          exact bodyPost_ret (results_none rfl _ _ _) rfl K6.out

end Go.Proofs.YtoifgpmbeicmnaaGreatDoor



set_option linter.unusedVariables false
namespace Go.Proofs.YtoifgpmbeicmnaaGreatDoor
open Go.RowKit Go.Deep

set_option maxHeartbeats 1000000 in
set_option maxRecDepth 100000 in
theorem implCloneP (s : ByteArray) (w : World) (hs : s.size ≤ 281474976710656) :
    Calls Tryz.prog 44 #[.string s] w fun e w' => e = .returned (.string s) ∧ Below w.heap.size w w' := by
  go_enter Tryz.func44, Tryz.ntmps44
  go_wp2_with fail
  refine (Tryz.stringslite_Clone s w hs).mono ?_
  rintro e w1 ⟨rfl, b1⟩
  go_wp2_with fail
  go_ret
  exact ⟨rfl, b1⟩
theorem makeP0 (n : Nat) (hn : n ≤ 1048577) (w : World) : (Instr.makeSlice 26 (.int .i64 0) (.int .i64 (n : Int))).run Tryz.prog w = .ok (.slice (some ⟨w.heap.size, 0, none⟩) 0 n) (w.alloc (.cells (madeCells #[.string ⟨#[]⟩, .int .i64 0, .int .i64 0] (n * 3)) 71)) := by
  obtain ⟨i, hi, hz, hs, hb⟩ := info3 infoPeak
  have hb' : (i.bytes : Int) * (n : Int) ≤ 281474976710656 := by rw [hb]; omega
  have hr := run_make (P := Tryz.prog) w 26 71 i _ Tryz.underlying26 hi hz .i64 .i64 0 (n : Int) (by omega) (by omega) hb' (by omega)
  simp only [Int.toNat_natCast, hs, Value.cells] at hr
  exact hr
end Go.Proofs.YtoifgpmbeicmnaaGreatDoor

set_option linter.unusedVariables false
namespace Go.Proofs.YtoifgpmbeicmnaaGreatDoor
open Go.RowKit Go.Deep

set_option maxHeartbeats 2000000 in
set_option maxRecDepth 100000 in
theorem specL5Of (g n cap : Nat) (l : List HeadV) (w : World) (hA : AtHead w g l) (hn : n = l.length) (hm : n ≤ 20) (hok : ∀ i, i < l.length → headOkB (l.getD i default) = true) :
    Calls Tryz.prog 67 #[.slice (some ⟨g, 0, none⟩) n cap] w fun e w' => ∃ v, e = .returned v ∧ PRow w.heap.size v (ofP l n) w' ∧ Below w.heap.size w w' := by
  have HA : Hid (AtHead w g l) := hA
  have HN : Hid (n = l.length) := hn
  have HM : Hid (n ≤ 20) := hm
  have HOK : Hid (∀ i, i < l.length → headOkB (l.getD i default) = true) := hok
  have R0 : Hid (PRow w.heap.size (.slice (some ⟨w.heap.size, 0, none⟩) 0 0) [] (w.alloc (.cells #[] 71))) := frow_new pEnc 71 3 w
  have B0 : Hid (Below w.heap.size w (w.alloc (.cells #[] 71))) := (Below.refl _ w).alloc (Nat.le_refl _) _
  clear hA hn hm hok
  go_enter Tryz.func67, Tryz.ntmps67
  go_wp2_with fail
  generalize w.alloc (.cells #[] 71) = W0 at R0 B0 ⊢
  go_loopw [3, 4] (fun out i wr => ∃ (k : Nat), k ≤ n ∧ i = .int .i64 (k : Int) ∧ Hid (PRow w.heap.size out (ofP l k) wr) ∧ Hid (Below w.heap.size w wr)) (fun _ i _ => n - (intOf i).toNat)
  case atStart => exact ⟨0, by omega, rfl, R0, B0⟩
  case round =>
    clear R0 B0
    obtain ⟨k, hk, rfl, R, HB⟩ := hrel
    by_cases hlt : k < n
    · have hkl : k < l.length := by rw [← HN.out]; exact hlt
      have HAr := HA.out.below HB.out HA.out.1
      have c0 := AtHead.c0 HAr k hkl
      have c1 := AtHead.c1 HAr k hkl
      have c2 := AtHead.c2 HAr k hkl
      have c3 := AtHead.c3 HAr k hkl
      have c4 := AtHead.c4 HAr k hkl
      have lk : (k : Int) < (n : Int) := by omega
      have lk0 : (0 : Int) ≤ (k : Int) := by omega
      have wk : IntKind.i64.wrap ((k : Int) + 1) = (k : Int) + 1 := by have := HM.out; rw [IntKind.wrap_i64]; omega
      have HK1 : Hid (k + 1 ≤ n) := hlt
      have hkk := HOK.out k hkl
      obtain ⟨ho1, ho2, ho3⟩ := ofP_ok HOK.out (by rw [← HN.out]; exact HM.out) k (by omega)
      have hlf := fun w' => specL5Leaf (l.getD k default) w' hkk
      have HLK : Hid (peakOkB (leafP (l.getD k default)) = true) := fine_ok (fine_leaf hkk) (by show (1 : Int) ≤ 20; decide)
      have HL1 : Hid ((leafP (l.getD k default)).count = 1) := rfl
      have HS : Hid (ofP l (k + 1) = addP (ofP l k) (leafP (l.getD k default))) := rfl
      obtain ⟨A2, hA2⟩ : ∃ A2, A2 = ofP l (k + 1) := ⟨_, rfl⟩
      have HE : Hid (A2 = ofP l (k + 1)) := hA2
      rw [← hA2] at HS
      clear hA2
      have HPK : Hid (∀ i, i < (ofP l k).length → peakOkB ((ofP l k).getD i default) = true) := fun i hi => getD_all (C := fun q => peakOkB q = true) ho1 i hi
      have HCN : Hid (cntTo (ofP l k) (ofP l k).length = (k : Int)) := ho2
      have HLL : Hid ((ofP l k).length ≤ k) := ho3
      generalize leafP (l.getD k default) = p at hlf HLK HL1 HS
      generalize ofP l k = A at R HPK HCN HLL HS
      generalize l.getD k default = h at c0 c1 c2 c3 c4 hlf hkk
      obtain ⟨⟨g4, cc, rfl⟩, -⟩ := id R.out
      unfold headVal at hlf
      clear HAr hkk ho1 ho2 ho3
      go_wp2_with fail
      refine (hlf _).mono ?_
      rintro e w3 ⟨rfl, b3⟩
      have B3 : Hid (Below w.heap.size w w3) := HB.out.trans (b3.mono HB.out.size)
      have R3 : Hid (PRow w.heap.size (.slice (some ⟨g4, 0, none⟩) A.length cc) A w3) := R.out.below b3
      have had := specL5Add g4 A.length cc A p w3 (FRow.at pEnc_len R3.out).1 rfl (by have := HLL.out; have := HM.out; omega) HPK.out ⟨HLK.out, by rw [HL1.out, HCN.out]; have := HM.out; omega⟩
      unfold peakVal at had
      unfold peakVal
      rw [← HS.out] at had
      clear hlf b3 R HB c0 c1 c2 c3 c4 HLK HL1 HPK HCN HS
      go_wp2_with fail
      refine had.mono ?_
      rintro e w4 ⟨v, rfl, R4, b4⟩
      have B4 : Hid (Below w.heap.size w w4) := B3.out.trans (b4.mono B3.out.size)
      have R5 : Hid (PRow w.heap.size v A2 w4) := R4.mono B3.out.size
      clear had b4 B3 R3 R4
      go_wp2_with fail
      go_roundw
      case rel => exact ⟨k + 1, HK1.out, by go_num, by rw [← HE.out]; exact R5, B4⟩
      case measure => have := HK1.out; simp [intOf]; omega
    · obtain rfl : k = n := by omega
      go_wp2_with fail
      go_ret
      exact ⟨_, rfl, R.out, HB.out⟩

end Go.Proofs.YtoifgpmbeicmnaaGreatDoor

set_option linter.unusedVariables false
namespace Go.Proofs.YtoifgpmbeicmnaaGreatDoor
open Go.RowKit Go.Deep

theorem room_leaf {ps : List PeakV} {h : HeadV} (hk : headOkB h = true) (hc : cntTo ps ps.length ≤ 20) : Room ps ps.length (leafP h) := by
  refine ⟨fine_ok (fine_leaf hk) (by show (1 : Int) ≤ 20; decide), ?_⟩
  show (1 : Int) + _ ≤ 21
  omega
end Go.Proofs.YtoifgpmbeicmnaaGreatDoor

set_option linter.unusedVariables false
namespace Go.Proofs.YtoifgpmbeicmnaaGreatDoor
open Go.RowKit Go.Deep

/-- Whether heads can be those of a range. -/
def headsB (l : List HeadV) : Bool := decide (l.length ≤ 20) && l.all headOkB
theorem heads_at {l : List HeadV} (h : headsB l = true) (i : Nat) (hi : i < l.length) : headOkB (l.getD i default) = true := by
  rw [headsB, Bool.and_eq_true, List.all_eq_true] at h
  rw [List.getD_eq_getElem?_getD, List.getElem?_eq_getElem hi]
  exact h.2 _ (List.getElem_mem hi)
theorem heads_len {l : List HeadV} (h : headsB l = true) : l.length ≤ 20 := by
  rw [headsB, Bool.and_eq_true, decide_eq_true_eq] at h
  exact h.1
theorem heads_long {l : List HeadV} (h : ¬ l.length ≤ 20) : headsB l = false := by rw [headsB, decide_eq_false h]; rfl
theorem heads_bad {l : List HeadV} {i : Nat} (hi : i < l.length) (h : headOkB (l.getD i default) = false) : headsB l = false := by
  cases hs : headsB l with
  | false => rfl
  | true => rw [heads_at hs i hi] at h; cases h
theorem heads_good {l : List HeadV} (h8 : l.length ≤ 20) (h : ∀ i, i < l.length → headOkB (l.getD i default) = true) : headsB l = true := by
  rw [headsB, decide_eq_true h8, Bool.true_and, List.all_eq_true]
  intro q hq
  obtain ⟨j, hj, rfl⟩ := List.mem_iff_getElem.1 hq
  have := h j hj
  rwa [List.getD_eq_getElem?_getD, List.getElem?_eq_getElem hj] at this
/-- The peaks that RangeOf tells. -/
def ofL (l : List HeadV) : List PeakV := if headsB l = true then ofP l l.length else []
theorem ofL_len (l : List HeadV) : (ofL l).length ≤ 20 := by
  unfold ofL
  split
  · rename_i h
    have h1 := heads_len h
    have h2 := (ofP_ok (heads_at h) h1 l.length (Nat.le_refl _)).2.2
    omega
  · exact Nat.zero_le _

set_option maxHeartbeats 2000000 in
set_option maxRecDepth 100000 in
theorem implRangeHeadsOk (g n cap : Nat) (l : List HeadV) (w : World) (hA : AtHead w g l) (hn : n = l.length) (hm : n ≤ 1048576) :
    Calls Tryz.prog 45 #[.slice (some ⟨g, 0, none⟩) n cap] w fun e w' => e = .returned (.bool (headsB l)) ∧ Below w.heap.size w w' := by
  by_cases h20 : n ≤ 20
  · have HA : Hid (AtHead w g l) := hA
    have HN : Hid (n = l.length) := hn
    have HBAD : Hid (∀ k, k < n → headOkB (l.getD k default) = false → headsB l = false) := fun k hk he => heads_bad (by omega) he
    have HGOO : Hid ((∀ k, k < n → headOkB (l.getD k default) = true) → headsB l = true) := fun hf => heads_good (by omega) (fun i hi => hf i (by omega))
    generalize headsB l = R at HBAD HGOO ⊢
    have h21 : ¬ (20 : Int) < (n : Int) := by omega
    clear hA hn
    go_enter Tryz.func45, Tryz.ntmps45
    go_wp2_with fail
    go_loopw [10] (fun i wr => ∃ k : Nat, k ≤ n ∧ i = .int .i64 (k : Int) ∧ Hid (Below w.heap.size w wr) ∧ Hid (∀ j, j < k → headOkB (l.getD j default) = true)) (fun i _ => n - (intOf i).toNat)
    case atStart => exact ⟨0, by omega, rfl, Below.refl _ _, fun j hj => by omega⟩
    case round =>
      obtain ⟨k, hk, rfl, HB, HQ⟩ := hrel
      by_cases hlt : k < n
      · have hkl : k < l.length := by rw [← HN.out]; exact hlt
        have HAr := HA.out.below HB.out HA.out.1
        have c0 := AtHead.c0 HAr k hkl
        have c1 := AtHead.c1 HAr k hkl
        have c2 := AtHead.c2 HAr k hkl
        have c3 := AtHead.c3 HAr k hkl
        have c4 := AtHead.c4 HAr k hkl
        have lk : (k : Int) < (n : Int) := by omega
        have lk0 : (0 : Int) ≤ (k : Int) := by omega
        have wk : IntKind.i64.wrap ((k : Int) + 1) = (k : Int) + 1 := by rw [IntKind.wrap_i64]; omega
        have HK1 : Hid (k + 1 ≤ n) := hlt
        have HH : Hid (headOkB (l.getD k default) = false → R = false) := HBAD.out k hlt
        have HQ2 : Hid (headOkB (l.getD k default) = true → ∀ j, j < k + 1 → headOkB (l.getD j default) = true) := by
          intro h j hj
          rcases Nat.lt_or_ge j k with h' | h'
          · exact HQ.out j h'
          · obtain rfl : j = k := by omega
            exact h
        have hho := fun w' => implHeadOk (l.getD k default) w'
        clear HQ HBAD HGOO hkl HAr
        generalize headOkB (l.getD k default) = ok at hho HH HQ2
        generalize l.getD k default = h at c0 c1 c2 c3 c4 hho
        have L0 : Hid (Below wr.heap.size wr (wr.alloc (.cells #[.string h.prev, .string h.root, .int .i64 h.time, .int .i64 h.diff, .int .i64 h.nonce] 25))) := (Below.refl _ wr).alloc (Nat.le_refl _) _
        cases ok with
        | false =>
          have HV : Hid (R = false) := HH.out rfl
          clear HH HQ2
          go_wp2_with fail
          refine (hho _).mono ?_
          rintro e w1 ⟨rfl, b1⟩
          have HB1 : Hid (Below w.heap.size w w1) := HB.out.trans ((L0.out.trans (b1.mono L0.out.size)).mono HB.out.size)
          clear b1
          go_wp2_with fail
          go_ret
          exact ⟨by rw [HV.out]; rfl, HB1.out⟩
        | true =>
          have HQ3 : Hid (∀ j, j < k + 1 → headOkB (l.getD j default) = true) := HQ2.out rfl
          clear HH HQ2
          go_wp2_with fail
          refine (hho _).mono ?_
          rintro e w1 ⟨rfl, b1⟩
          have HB1 : Hid (Below w.heap.size w w1) := HB.out.trans ((L0.out.trans (b1.mono L0.out.size)).mono HB.out.size)
          clear b1
          go_wp2_with fail
          go_roundw
          case rel => exact ⟨k + 1, HK1.out, by go_num, HB1, HQ3⟩
          case measure => have := HK1.out; simp [intOf]; omega
      · obtain rfl : k = n := by omega
        have HV : Hid (R = true) := HGOO.out HQ.out
        clear HBAD HGOO HQ
        go_wp2_with fail
        go_ret
        exact ⟨by rw [HV.out]; rfl, HB.out⟩
  · have HV : Hid (headsB l = false) := heads_long (by omega)
    generalize headsB l = R at HV ⊢
    have h21 : (20 : Int) < (n : Int) := by omega
    clear hA hn
    go_enter Tryz.func45, Tryz.ntmps45
    go_wp2_with fail
    go_ret
    exact ⟨by rw [HV.out]; rfl, Below.refl _ _⟩

def RofPost (l : List HeadV) (w : World) (e : Ending) (w' : World) : Prop := ∃ v, e = .returned v ∧ Pks w.heap.size v (ofL l) w' ∧ Below w.heap.size w w'
theorem of_no {l : List HeadV} {w w' : World} (h : headsB l = false) (hb : Below w.heap.size w w') : RofPost l w (.returned (.slice none 0 0)) w' := ⟨_, rfl, .inl ⟨rfl, by rw [ofL, h]; rfl⟩, hb⟩
theorem of_yes {l : List HeadV} {w w' : World} {v : Value} (h : headsB l = true) (hr : PRow w.heap.size v (ofP l l.length) w') (hb : Below w.heap.size w w') : RofPost l w (.returned v) w' := ⟨_, rfl, .inr (by rw [ofL, if_pos h]; exact PBk.frow hr), hb⟩

end Go.Proofs.YtoifgpmbeicmnaaGreatDoor

set_option linter.unusedVariables false
namespace Go.Proofs.YtoifgpmbeicmnaaGreatDoor
open Go.RowKit Go.Deep

/-- The stack behind m leaves, the first node first. -/
def stS (l : List HeadV) (x m : Nat) : List NodeV := (stkN (leafF l) x m).reverse
theorem stS_step (l : List HeadV) (x m : Nat) : addS (stS l x m) (leafF l m, decide (m = x)) = stS l x (m + 1) := by simp [addS, stS, stkN]
theorem noteS_step (l : List HeadV) (x m : Nat) : notesN (leafF l) x m ++ noteS (stS l x m) (leafF l m, decide (m = x)) = notesN (leafF l) x (m + 1) := by simp [noteS, stS, notesN]
theorem stS_fst (l : List HeadV) (x m : Nat) : (stS l x m).map Prod.fst = ofP l m := by rw [stS, List.map_reverse, stk_ofP, List.reverse_reverse]
theorem stS_len (l : List HeadV) (x m : Nat) : (stS l x m).length = (ofP l m).length := by rw [← stS_fst l x m, List.length_map]
theorem noteN_len (a b : NodeV) : (noteN a b).length ≤ 2 := by
  unfold noteN
  rw [List.length_append]
  split <;> split <;> simp
theorem noteR_len : ∀ (r : List NodeV) (p : NodeV), (noteR r p).length ≤ 2 * r.length
  | [], p => by simp [noteR]
  | q :: r, p => by
    rw [noteR]
    split
    · have h1 := noteN_len q p
      have h2 := noteR_len r (bothN q p)
      rw [List.length_append, List.length_cons]
      omega
    · simp
theorem notes_len {l : List HeadV} (h : ∀ i, i < l.length → headOkB (l.getD i default) = true) (hl : l.length ≤ 20) (x : Nat) : ∀ m, m ≤ l.length → (notesN (leafF l) x m).length ≤ 40 * m
  | 0, _ => Nat.le_refl _
  | m + 1, hm => by
    have h1 := notes_len h hl x m (by omega)
    have h2 := noteR_len (stkN (leafF l) x m) (leafF l m, decide (m = x))
    have h3 := (ofP_ok h hl m (by omega)).2.2
    have h4 := stS_len l x m
    rw [stS, List.length_reverse] at h4
    rw [notesN, List.length_append]
    omega
theorem addR_lenN : ∀ (r : List PeakV) (p : PeakV), (addR r p).length ≤ r.length + 1
  | [], p => by simp [addR]
  | q :: r, p => by
    rw [addR]
    split
    · have := addR_lenN r (bothP q p)
      rw [List.length_cons]
      omega
    · simp
theorem ofP_len_le (l : List HeadV) : ∀ k, (ofP l k).length ≤ k
  | 0 => Nat.le_refl _
  | k + 1 => by
    have h1 := ofP_len_le l k
    have h2 := addR_lenN (ofP l k).reverse (leafP (l.getD k default))
    rw [ofP, addP, List.length_reverse]
    rw [List.length_reverse] at h2
    omega
/-- What RangeProof tells. -/
def proofL (l : List HeadV) (x : Int) : List PeakV × List PeakV := if headsB l = true ∧ 0 ≤ x ∧ x < (l.length : Int) then (ofP l l.length, notesN (leafF l) x.toNat l.length) else ([], [])
def PrfPost (l : List HeadV) (x : Int) (w : World) (e : Ending) (w' : World) : Prop := ∃ vp vs, e = .returned (.agg #[vp, vs]) ∧ Pks w.heap.size vp (proofL l x).1 w' ∧ Pks w.heap.size vs (proofL l x).2 w' ∧ Below w.heap.size w w'
/-- The two lists of an answer are apart. -/
def Dis (e : Ending) : Prop := ∀ vp vs b, e = .returned (.agg #[vp, vs]) → blkOf vp b → ¬ blkOf vs b
theorem prf_no {l : List HeadV} {x : Int} {w w' : World} (h : ¬ (headsB l = true ∧ 0 ≤ x ∧ x < (l.length : Int))) (hb : Below w.heap.size w w') : PrfPost l x w (.returned (.agg #[.slice none 0 0, .slice none 0 0])) w' ∧ Dis (.returned (.agg #[.slice none 0 0, .slice none 0 0])) := by
  have e : proofL l x = ([], []) := by rw [proofL, if_neg h]
  refine ⟨⟨_, _, rfl, .inl ⟨rfl, by rw [e]⟩, .inl ⟨rfl, by rw [e]⟩, hb⟩, ?_⟩
  intro vp vs b he h1 h2
  simp only [Ending.returned.injEq, Value.agg.injEq, Array.mk.injEq, List.cons.injEq, and_true] at he
  rw [← he.1] at h1
  exact h1
theorem pks_own {B : Nat} {v : Value} {l : List PeakV} {w : World} (h : w.ownsRow B 71 3 v l.length (l.flatMap pEnc)) : Pks B v l w := by
  rcases h.2 with ⟨rfl, h0⟩ | ⟨g, cap, cur, rfl, _⟩
  · exact .inl ⟨rfl, List.eq_nil_of_length_eq_zero h0⟩
  · exact .inr (PBk.frow (FRow.of h rfl))
theorem prf_yes {l : List HeadV} {X : Nat} {w w' : World} {vp vs : Value} {B : Nat} (hk : headsB l = true) (hx : X < l.length) (hp : w'.ownsRow B 71 3 vp (ofP l l.length).length ((ofP l l.length).flatMap pEnc)) (hs : w'.ownsRow w.heap.size 71 3 vs (notesN (leafF l) X l.length).length ((notesN (leafF l) X l.length).flatMap pEnc)) (hB : w.heap.size ≤ B) (hv : ∀ b, vs.ownBlock = some b → b < B) (hb : Below w.heap.size w w') : PrfPost l (X : Int) w (.returned (.agg #[vp, vs])) w' ∧ Dis (.returned (.agg #[vp, vs])) := by
  have e : proofL l (X : Int) = (ofP l l.length, notesN (leafF l) X l.length) := by rw [proofL, if_pos ⟨hk, by omega, by omega⟩]; rfl
  have hp' := pks_own hp
  refine ⟨⟨_, _, rfl, by rw [e]; exact hp'.mono hB, by rw [e]; exact pks_own hs, hb⟩, ?_⟩
  intro vp' vs' b he h1 h2
  simp only [Ending.returned.injEq, Value.agg.injEq, Array.mk.injEq, List.cons.injEq, and_true] at he
  obtain ⟨rfl, rfl⟩ := he
  have h3 := (hp'.blk h1).2
  have h4 : vs.ownBlock = some b := by
    cases vs with
    | slice a n c =>
      cases a with
      | none => exact absurd h2 (by simp [blkOf])
      | some a => simpa [blkOf, Value.ownBlock] using h2
    | _ => exact absurd h2 (by simp [blkOf])
  have := hv b h4
  omega
/-- While the peaks are laid: B blocks stood ahead of it. -/
structure PkW (w0 wB wr : World) (gp : Nat) (vp vs : Value) (ps : List PeakV) : Prop where
  k : CBk wr gp 28 #[vp, vs]
  row : wr.ownsRow wB.heap.size 71 3 vp ps.length (ps.flatMap pEnc)
  same : ∀ c, c < wB.heap.size → c ≠ gp → wr.heap[c]? = wB.heap[c]?
  b : Below w0.heap.size w0 wr
  size : wB.heap.size ≤ wr.heap.size
  g : w0.heap.size ≤ gp
  lt : gp < wB.heap.size
theorem PkW.call {w0 wB wr w' : World} {gp : Nat} {vp vs : Value} {ps : List PeakV} (h : PkW w0 wB wr gp vp vs ps) (hb : Below wr.heap.size wr w') : PkW w0 wB w' gp vp vs ps :=
  ⟨h.k.call hb, ownE_keep h.row (fun b _ hlt => hb.block b hlt), fun c hc hne => (hb.block c (Nat.lt_of_lt_of_le hc h.size)).trans (h.same c hc hne), h.b.trans (hb.mono h.b.size), Nat.le_trans h.size hb.size, h.g, h.lt⟩
theorem PkW.at {w0 wB wr : World} {gp : Nat} {vp vs : Value} {ps : List PeakV} (h : PkW w0 wB wr gp vp vs ps) {c j : Nat} (hc : c < wB.heap.size) (hne : c ≠ gp) : wr.cell? ⟨c, j, none⟩ = wB.cell? ⟨c, j, none⟩ := World.cell?_of_block (a := ⟨c, j, none⟩) (h.same c hc hne)
theorem PkW.keep4 {w0 wB wr w4 : World} {gp : Nat} {vp vs : Value} {ps : List PeakV} (h : PkW w0 wB wr gp vp vs ps) (hb : Below wB.heap.size wr w4) : w4.cell? ⟨gp, 0, none⟩ = some vp ∧ w4.frozen? ⟨gp, 0, none⟩ = false := by
  have h1 : CBk w4 gp 28 #[vp, vs] := h.k.below hb h.lt
  exact ⟨h1.cell 0, h1.frozen 0⟩
theorem PkW.laid {w0 wB wr w4 : World} {gp g4 c4 : Nat} {vp vs : Value} {ps : List PeakV} {t : PeakV} (h : PkW w0 wB wr gp vp vs ps) (hown : w4.ownsRow wB.heap.size 71 3 (.slice (some ⟨g4, 0, none⟩) (ps.length + 1) c4) (ps.length + 1) (ps.flatMap pEnc ++ pEnc t)) (hb : Below wB.heap.size wr w4) (hw : w0.heap.size ≤ wB.heap.size) : PkW w0 wB (w4.setCell ⟨gp, 0, none⟩ (.slice (some ⟨g4, 0, none⟩) (ps.length + 1) c4)) gp (.slice (some ⟨g4, 0, none⟩) (ps.length + 1) c4) vs (ps ++ [t]) := by
  have h1 : CBk w4 gp 28 #[vp, vs] := h.k.below hb h.lt
  have hown' : w4.ownsRow wB.heap.size 71 3 (.slice (some ⟨g4, 0, none⟩) (ps.length + 1) c4) (ps ++ [t]).length ((ps ++ [t]).flatMap pEnc) := by
    rw [List.length_append, List.flatMap_append]
    simpa using hown
  refine ⟨h1.set 0 _, own_set hown' h1 ftne, fun c hc hne => ?_, (h.b.trans (hb.mono hw)).setCell (p := ⟨gp, 0, none⟩) h.g _, by simpa using Nat.le_trans h.size hb.size, h.g, h.lt⟩
  rw [← h.same c hc hne, ← hb.block c hc]
  simp [World.setCell, Array.getElem?_modify, Ne.symm hne]
theorem PkW.start {w0 wB : World} {gp : Nat} {vs : Value} {ss : List PeakV} (h : PfW w0 wB gp vs ss) : PkW w0 wB wB gp (.slice none 0 0) vs [] :=
  ⟨h.k, ⟨rfl, .inl ⟨rfl, rfl⟩⟩, fun _ _ _ => rfl, h.b, Nat.le_refl _, h.lo, h.k.lt⟩
/-- The answer's block, ahead of the last store. -/
theorem PkW.last {w1 wB wr : World} {gp g4 : Nat} {vp vs : Value} {ps : List PeakV} {cs : Array Value} (h : PkW w1 wB wr gp vp vs ps) (h4 : CBk w1 g4 28 cs) : CBk wr g4 28 cs := h4.call h.b
theorem PkW.fin {w w1 wB wr : World} {gp g4 : Nat} {vp vs : Value} {ps ss : List PeakV} (h : PkW w1 wB wr gp vp vs ps) (hs : PfW w1 wB gp vs ss) (h4 : CBk w1 g4 28 #[.slice none 0 0, .slice none 0 0]) (hb : Below w.heap.size w w1) (hw : w.heap.size ≤ g4) :
    CBk ((wr.setCell ⟨g4, 0, none⟩ vp).setCell ⟨g4, 1, none⟩ vs) g4 28 #[vp, vs] ∧ ((wr.setCell ⟨g4, 0, none⟩ vp).setCell ⟨g4, 1, none⟩ vs).ownsRow wB.heap.size 71 3 vp ps.length (ps.flatMap pEnc) ∧ ((wr.setCell ⟨g4, 0, none⟩ vp).setCell ⟨g4, 1, none⟩ vs).ownsRow w.heap.size 71 3 vs ss.length (ss.flatMap pEnc) ∧ w.heap.size ≤ wB.heap.size ∧ (∀ b, vs.ownBlock = some b → b < wB.heap.size) ∧ Below w.heap.size w ((wr.setCell ⟨g4, 0, none⟩ vp).setCell ⟨g4, 1, none⟩ vs) := by
  have h5 : CBk wr g4 28 #[.slice none 0 0, .slice none 0 0] := h4.call h.b
  have h6 := h5.set 0 vp
  have hrs : wr.ownsRow w1.heap.size 71 3 vs ss.length (ss.flatMap pEnc) := ownE_keep hs.row (fun b hv hlt => by
    obtain ⟨⟨cur, hc⟩, _⟩ := ownE_is hs.row hv
    exact h.same b hlt (cbk_ne hc hs.k (Ne.symm ftne)))
  refine ⟨h6.set 1 vs, own_set (own_set h.row h5 ftne) h6 ftne, ownE_mono (own_set (own_set hrs h5 ftne) h6 ftne) hb.size, Nat.le_trans hb.size hs.b.size, fun b hv => ?_, ?_⟩
  · obtain ⟨⟨cur, hc⟩, _⟩ := ownE_is hs.row hv
    exact hc.lt
  · exact ((hb.trans (h.b.mono hb.size)).setCell (p := ⟨g4, 0, none⟩) hw _).setCell (p := ⟨g4, 1, none⟩) hw _
theorem NSt.open {w1 : World} (w1' : World) {l : List HeadV} {X : Nat} (hw : w1' = (w1.alloc (.cells #[.slice none 0 0, .slice none 0 0] 28)).alloc (.cells #[.slice none 0 0, .func (.func 46) #[] #[], .func (.func 48) #[] #[.pointer (some ⟨w1.heap.size, 0, none⟩)]] 80)) : NSt w1 w1' w1.heap.size (w1.heap.size + 1) none 0 0 (stS l X 0) (notesN (leafF l) X 0) := by
  subst hw
  have b1 : Below w1.heap.size w1 (w1.alloc (.cells #[.slice none 0 0, .slice none 0 0] 28)) := (Below.refl _ w1).alloc (Nat.le_refl _) _
  have b2 := b1.alloc (o := .cells #[.slice none 0 0, .func (.func 46) #[] #[], .func (.func 48) #[] #[.pointer (some ⟨w1.heap.size, 0, none⟩)]] 80) b1.size
  refine ⟨?_, ⟨rfl, .inl ⟨rfl, rfl⟩⟩, rfl, ⟨.slice none 0 0, (CBk.new w1 _ _).alloc _, ⟨rfl, .inl ⟨rfl, rfl⟩⟩, b2, Nat.le_refl _⟩, Nat.le_succ _⟩
  have := CBk.new (w1.alloc (.cells #[.slice none 0 0, .slice none 0 0] 28)) 80 #[.slice none 0 0, .func (.func 46) #[] #[], .func (.func 48) #[] #[.pointer (some ⟨w1.heap.size, 0, none⟩)]]
  rwa [show (w1.alloc (.cells #[.slice none 0 0, .slice none 0 0] 28)).heap.size = w1.heap.size + 1 from by simp] at this
end Go.Proofs.YtoifgpmbeicmnaaGreatDoor

set_option linter.unusedVariables false
namespace Go.Proofs.YtoifgpmbeicmnaaGreatDoor
open Go.RowKit Go.Deep

def PlacePost (ps : List PeakV) (a : Int) (e : Ending) : Prop := (∃ k, placeP ps a = some k ∧ e = .returned (.tuple #[.int .i64 (k : Int), .int .i64 (cntTo ps k)])) ∨ (placeP ps a = none ∧ ∃ x, e = .returned (.tuple #[.int .i64 (-1), .int .i64 x]))
set_option maxHeartbeats 2000000 in
set_option maxRecDepth 100000 in
theorem specL5Peak (g n cap : Nat) (ps : List PeakV) (a : Int) (w : World) (h : AtP w g ps) (hn : n = ps.length) (hm : n ≤ 1048576) (hr : rangeOkB ps = true) :
    Calls Tryz.prog 68 #[.slice (some ⟨g, 0, none⟩) n cap, .int .i64 a] w fun e w' => PlacePost ps a e ∧ w = w' := by
  have HA : Hid (AtP w g ps) := h
  have HN : Hid (n = ps.length) := hn
  have HR : Hid (rangeOkB ps = true) := hr
  have hl20 := range_len hr
  have HY : Hid (∀ k e, placeP ps a = some k → e = .returned (.tuple #[.int .i64 (k : Int), .int .i64 (cntTo ps k)]) → PlacePost ps a e) := fun k e h1 h2 => .inl ⟨k, h1, h2⟩
  have HX : Hid (∀ x e, placeP ps a = none → e = .returned (.tuple #[.int .i64 (-1), .int .i64 x]) → PlacePost ps a e) := fun x e h1 h2 => .inr ⟨h1, x, h2⟩
  generalize PlacePost ps a = Q at HY HX ⊢
  clear h hn hr
  go_enter Tryz.func68, Tryz.ntmps68
  go_wp2_with fail
  go_loopw [6, 7] (fun f i wr => ∃ k : Nat, k ≤ n ∧ i = .int .i64 (k : Int) ∧ f = .int .i64 (cntTo ps k) ∧ Hid (w = wr) ∧ Hid (∀ j, j < k → ¬ a < cntTo ps (j + 1))) (fun _ i _ => n - (intOf i).toNat)
  case atStart => exact ⟨0, by omega, rfl, rfl, rfl, fun j hj => by omega⟩
  case round =>
    obtain ⟨k, hk, rfl, rfl, HW, HQ⟩ := hrel
    by_cases hlt : k < n
    · have hkl : k < ps.length := by rw [← HN.out]; exact hlt
      have HAr : Hid (AtP wr g ps) := by rw [← HW.out]; exact HA.out
      have q2 := AtP.c2 HAr.out k hkl
      have lk : (k : Int) < (n : Int) := by omega
      have lk0 : (0 : Int) ≤ (k : Int) := by omega
      have wk : IntKind.i64.wrap ((k : Int) + 1) = (k : Int) + 1 := by rw [IntKind.wrap_i64]; omega
      have HK1 : Hid (k + 1 ≤ n) := hlt
      have hri := rangeOk_at HR.out k hkl
      have hci := cnt_in HR.out k (by omega)
      have hw1 : IntKind.i64.wrap (cntTo ps k + (ps.getD k default).count) = cntTo ps k + (ps.getD k default).count := by rw [IntKind.wrap_i64]; omega
      have HC1 : Hid (cntTo ps (k + 1) = cntTo ps k + (ps.getD k default).count) := rfl
      have HYk : Hid (∀ e, a < cntTo ps (k + 1) → e = .returned (.tuple #[.int .i64 (k : Int), .int .i64 (cntTo ps k)]) → Q e) := fun e h1 h2 => HY.out k e (place_at hkl h1 HQ.out) h2
      have HQ2 : Hid (¬ a < cntTo ps (k + 1) → ∀ j, j < k + 1 → ¬ a < cntTo ps (j + 1)) := by
        intro hh j hj
        rcases Nat.lt_or_ge j k with h' | h'
        · exact HQ.out j h'
        · obtain rfl : j = k := by omega
          exact hh
      clear HQ hkl HAr hri hci
      generalize (ps.getD k default).count = c at q2 hw1 HC1
      generalize cntTo ps k = ck at hw1 HC1 HYk ⊢
      by_cases hin : a < ck + c
      · have HV : Hid (∀ e, e = .returned (.tuple #[.int .i64 (k : Int), .int .i64 ck]) → Q e) := fun e he => HYk.out e (by rw [HC1.out]; exact hin) he
        clear HY HX HYk HQ2 HC1
        go_wp2_with fail
        go_ret2
        exact ⟨HV.out _ rfl, HW.out⟩
      · have HQ3 : Hid (∀ j, j < k + 1 → ¬ a < cntTo ps (j + 1)) := HQ2.out (by rw [HC1.out]; exact hin)
        clear HYk HQ2
        go_wp2_with fail
        go_roundw
        case rel => exact ⟨k + 1, HK1.out, by go_num, by rw [HC1.out], HW, HQ3⟩
        case measure => have := HK1.out; simp [intOf]; omega
    · obtain rfl : k = n := by omega
      have HV : Hid (∀ x e, e = .returned (.tuple #[.int .i64 (-1), .int .i64 x]) → Q e) := fun x e he => HX.out x e (place_no (fun j hj => HQ.out j (by rw [HN.out]; exact hj))) he
      generalize cntTo ps k = ck at ⊢
      clear HY HX HQ
      go_wp2_with fail
      go_ret2
      exact ⟨HV.out _ _ rfl, HW.out⟩

theorem results_cell_tmp2 {fn : Func} {p u v : Tmp} {ty : TypeId} (h : fn.results = #[.cell p ty, .tmp u, .tmp v]) (tmps : Array Value) (P : Program) (w : World) :
    (results fn tmps).run P w =
      ((asAddr (tmps.getD p undef)).run P w).andThen fun a w₁ => ((loadVar ty a).run P w₁).andThen fun x w₂ => .ok (.tuple #[x, tmps.getD u undef, tmps.getD v undef]) w₂ := by
  simp only [results, h]
  simp [Sem.run_bind, Result.andThen]
theorem results_row_tmp2 {P : Program} {fn : Func} {p u v : Tmp} {ty : TypeId} (h : fn.results = #[.cell p ty, .tmp u, .tmp v]) (tmps : Array Value) (w : World) (g : Nat) (t : TypeId) (cs : Array Value) (fr : Nat × Nat) (d : TypeDesc)
    (hp : tmps.getD p undef = .pointer (some ⟨g, 0, none⟩)) (hg : w.heap[g]? = some (.cells cs t fr))
    (hu : P.underlying ty = some d) (hd : (match d with | .struct _ | .array _ _ => true | _ => false) = true) (hi : (P.info? ty).map (·.size) = some cs.size) :
    (results fn tmps).run P w = .ok (.tuple #[.agg cs, tmps.getD u undef, tmps.getD v undef]) w := by
  rw [results_cell_tmp2 h, hp]
  simp [asAddr, run_loadVar_row w g t ty cs fr d hg hu hd hi, Result.andThen]

/-- What stands while a leaf is led up: the peak so far, the place of the answer. -/
structure WalkW (w wr : World) (g3 : Nat) (q : PeakV) : Prop where
  p : CBk wr g3 71 #[.string q.sum, .int .i64 q.work, .int .i64 q.count]
  r : CBk wr (g3 + 1) 71 #[.string ⟨#[]⟩, .int .i64 0, .int .i64 0]
  lo : w.heap.size ≤ g3
  b : Below w.heap.size w wr
theorem WalkW.call {w wr w' : World} {g3 : Nat} {q : PeakV} (h : WalkW w wr g3 q) (hb : Below wr.heap.size wr w') : WalkW w w' g3 q :=
  ⟨h.p.call hb, h.r.call hb, h.lo, h.b.trans (hb.mono h.b.size)⟩
theorem WalkW.store {w wr : World} {g3 : Nat} {q : PeakV} (h : WalkW w wr g3 q) (x : PeakV) : WalkW w (((wr.setCell ⟨g3, 0, none⟩ (.string x.sum)).setCell ⟨g3, 1, none⟩ (.int .i64 x.work)).setCell ⟨g3, 2, none⟩ (.int .i64 x.count)) g3 x := by
  have h2 := h.lo
  exact ⟨h.p.set3, ((h.r.other (by omega) _).other (by omega) _).other (by omega) _, h2, ((h.b.setCell (p := ⟨g3, 0, none⟩) (by show w.heap.size ≤ g3; omega) _).setCell (p := ⟨g3, 1, none⟩) (by show w.heap.size ≤ g3; omega) _).setCell (p := ⟨g3, 2, none⟩) (by show w.heap.size ≤ g3; omega) _⟩
theorem WalkW.back {w wr : World} {g3 : Nat} {q : PeakV} (h : WalkW w wr g3 q) (x : PeakV) : Below w.heap.size w (((wr.setCell ⟨g3 + 1, 0, none⟩ (.string x.sum)).setCell ⟨g3 + 1, 1, none⟩ (.int .i64 x.work)).setCell ⟨g3 + 1, 2, none⟩ (.int .i64 x.count)) := by
  have h2 := h.lo
  exact ((h.b.setCell (p := ⟨g3 + 1, 0, none⟩) (by show w.heap.size ≤ g3 + 1; omega) _).setCell (p := ⟨g3 + 1, 1, none⟩) (by show w.heap.size ≤ g3 + 1; omega) _).setCell (p := ⟨g3 + 1, 2, none⟩) (by show w.heap.size ≤ g3 + 1; omega) _
/-- What the walk of a leaf answers. -/
def WalkPost (lf : PeakV) (a : Nat) (ss : List PeakV) (n : Nat) (e : Ending) : Prop := (∃ q l, walkTo lf a ss n = some (q, l) ∧ e = .returned (.tuple #[peakVal q, .int .i64 l, .bool true])) ∨ (walkTo lf a ss n = none ∧ ∃ q, e = .returned (.tuple #[peakVal q, .int .i64 0, .bool false]))

end Go.Proofs.YtoifgpmbeicmnaaGreatDoor

set_option linter.unusedVariables false
namespace Go.Proofs.YtoifgpmbeicmnaaGreatDoor
open Go.RowKit Go.Deep

theorem tree_ok {l : List HeadV} (h : ∀ i, i < l.length → headOkB (l.getD i default) = true) (hl : l.length ≤ 20) : ∀ (k b : Nat), b + 2 ^ k ≤ l.length → peakOkB (treeT (leafF l) b k) = true
  | 0, b, hb => by
    rw [treeT]
    exact fine_ok (fine_leaf (h b (by simp at hb; omega))) (by show (1 : Int) ≤ 20; decide)
  | k + 1, b, hb => by
    have e1 : 2 ^ (k + 1) = 2 ^ k + 2 ^ k := by rw [Nat.pow_succ']; omega
    have hp : 0 < 2 ^ k := Nat.two_pow_pos _
    have h1 := tree_ok h hl k b (by omega)
    have h2 := tree_ok h hl k (b + 2 ^ k) (by omega)
    have c1 := treeT_cnt (leafF_cnt l) k b
    have c2 := treeT_cnt (leafF_cnt l) k (b + 2 ^ k)
    rw [treeT]
    generalize treeT (leafF l) b k = p at h1 c1
    generalize treeT (leafF l) (b + 2 ^ k) k = q at h2 c2
    have i1 := peakOk_in h1
    have i2 := peakOk_in h2
    have hs := isSum_both p q
    simp only [peakOkB, hs, Bool.true_and, Bool.and_eq_true, decide_eq_true_eq]
    show (1 ≤ p.count + q.count ∧ p.count + q.count ≤ 20) ∧ p.count + q.count ≤ p.work + q.work ∧ p.work + q.work ≤ (p.count + q.count) * 8
    generalize 2 ^ k = P at e1 hb c1 c2
    omega
theorem rowT_snoc (f : Nat → PeakV) : ∀ (m a k : Nat), rowT f a k (m + 1) = rowT f a k m ++ [treeT f (a + m * 2 ^ k) k]
  | 0, a, k => by simp [rowT]
  | m + 1, a, k => by
    have e1 : a + 2 ^ k + m * 2 ^ k = a + (m + 1) * 2 ^ k := by rw [Nat.add_mul, Nat.one_mul]; omega
    rw [rowT, rowT_snoc f m (a + 2 ^ k) k, e1]
    rfl
/-- Two of a row become one of the row above it. -/
theorem row_two (f : Nat → PeakV) (a k i N : Nat) (h : 2 * i + 1 < N) : rowT f a (k + 1) (i + 1) = rowT f a (k + 1) i ++ [bothP ((rowT f a k N).getD (2 * i) default) ((rowT f a k N).getD (2 * i + 1) default)] := by
  have e1 : 2 ^ (k + 1) = 2 ^ k + 2 ^ k := by rw [Nat.pow_succ']; omega
  have e2 : a + i * 2 ^ (k + 1) = a + 2 * i * 2 ^ k := by rw [e1, Nat.mul_add, show 2 * i = i + i from by omega, Nat.add_mul]
  have e3 : a + 2 * i * 2 ^ k + 2 ^ k = a + (2 * i + 1) * 2 ^ k := by rw [Nat.add_mul (2 * i) 1, Nat.one_mul]; omega
  rw [rowT_snoc, rowT_at f N a k (2 * i) (by omega), rowT_at f N a k (2 * i + 1) (by omega), treeT, e2, e3]
theorem row_ok {l : List HeadV} (h : ∀ i, i < l.length → headOkB (l.getD i default) = true) (hl : l.length ≤ 20) {a k N z : Nat} (hN : a + N * 2 ^ k ≤ l.length) (hz : z < N) : peakOkB ((rowT (leafF l) a k N).getD z default) = true := by
  rw [rowT_at _ _ _ _ _ hz]
  refine tree_ok h hl k _ ?_
  have h1 : (z + 1) * 2 ^ k ≤ N * 2 ^ k := Nat.mul_le_mul_right _ hz
  rw [Nat.add_mul, Nat.one_mul] at h1
  generalize 2 ^ k = P at *
  generalize z * P = Z at *
  generalize N * P = M at *
  omega
def lenV : Value → Nat
  | .slice _ n _ => n
  | _ => 0
/-- What stands ahead of a row's round: the steps so far, the row. -/
structure TreeW (w wr : World) (v : Value) (o : List PeakV) (g6 : Nat) (ps : List PeakV) : Prop where
  row : PRow w.heap.size v o wr
  at_ : AtP wr g6 ps
  far : v.ownBlock ≠ some g6
  b : Below w.heap.size w wr
theorem prow_own {B : Nat} {v : Value} {l : List PeakV} {w : World} (h : PRow B v l w) : w.ownsRow B 71 3 v l.length (l.flatMap pEnc) := h.2
theorem AtP.keepB {w w' : World} {g : Nat} {l : List PeakV} (h : AtP w g l) (hk : w'.heap[g]? = w.heap[g]?) (hs : w.heap.size ≤ w'.heap.size) : AtP w' g l :=
  ⟨Nat.lt_of_lt_of_le h.1 hs, fun i j hi hj => (World.cell?_of_block (a := ⟨g, i * 3 + j, none⟩) hk).trans (h.2 i j hi hj)⟩

set_option maxHeartbeats 8000000 in
set_option maxRecDepth 100000 in
theorem specL5Tree (g n cap X J a : Nat) (l : List HeadV) (w : World) (hA : AtP w g (rowT (leafF l) a 0 (2 ^ J))) (hn : n = 2 ^ J) (hX : X < 2 ^ J) (hal : a + 2 ^ J ≤ l.length) (hl : l.length ≤ 20) (hok : ∀ i, i < l.length → headOkB (l.getD i default) = true) :
    Calls Tryz.prog 70 #[.slice (some ⟨g, 0, none⟩) n cap, .int .i64 (X : Int)] w fun e w' => ∃ v, e = .returned v ∧ PRow w.heap.size v (treeS J (rowT (leafF l) a 0 (2 ^ J)) X) w' ∧ Below w.heap.size w w' := by
  obtain ⟨i0, hi, hz0, hz1, hz2⟩ := info3 infoPeak
  have T0 : Hid (TreeW w (w.alloc (.cells #[] 71)) (.slice (some ⟨w.heap.size, 0, none⟩) 0 0) [] g (rowT (leafF l) a 0 n)) := by
    rw [hn]
    have hb := (Below.refl w.heap.size w).alloc (Nat.le_refl _) (.cells #[] 71)
    refine ⟨frow_new pEnc 71 3 w, hA.below hb hA.1, ?_, hb⟩
    have := hA.1
    simp [Value.ownBlock]
    omega
  have HOK : Hid (∀ k N z, a + N * 2 ^ k ≤ l.length → z < N → peakOkB ((rowT (leafF l) a k N).getD z default) = true) := fun k N z h1 h2 => row_ok hok hl h1 h2
  have HAL : Hid (a + 2 ^ J ≤ l.length ∧ l.length ≤ 20) := ⟨hal, hl⟩
  have HN : Hid (n = 2 ^ J) := hn
  have HX : Hid (X < n) := by show _ < _; omega
  have HT : Hid ([] ++ treeS J (rowT (leafF l) a 0 n) X = treeS J (rowT (leafF l) a 0 (2 ^ J)) X) := by rw [hn]; rfl
  generalize treeS J (rowT (leafF l) a 0 (2 ^ J)) X = T at HT ⊢
  obtain ⟨Q, hQ⟩ : ∃ Q : Ending → World → Prop, Q = fun e w' => ∃ v, e = .returned v ∧ PRow w.heap.size v T w' ∧ Below w.heap.size w w' := ⟨_, rfl⟩
  have HQ : Hid (∀ (v : Value) (w' : World), PRow w.heap.size v T w' → Below w.heap.size w w' → Q (.returned v) w') := fun v w' h1 h2 => by rw [hQ]; exact ⟨v, rfl, h1, h2⟩
  show Calls _ _ _ _ (fun e w' => ∃ v, e = .returned v ∧ PRow w.heap.size v T w' ∧ Below w.heap.size w w')
  rw [← hQ]
  clear hQ hA hn hX hal hl hok
  go_enter Tryz.func70, Tryz.ntmps70
  go_wp2_with fail
  generalize w.alloc (.cells #[] 71) = W0 at T0 ⊢
  go_loopw [1, 5, 6] (fun at5 out row wr => ∃ (k j y N g6 c6 g5 m5 c5 : Nat) (o : List PeakV), at5 = .int .i64 (y : Int) ∧ out = .slice (some ⟨g5, 0, none⟩) m5 c5 ∧ row = .slice (some ⟨g6, 0, none⟩) N c6 ∧ Hid (k + j = J ∧ N = 2 ^ j ∧ y < N ∧ o.length = k) ∧ Hid (TreeW w wr (.slice (some ⟨g5, 0, none⟩) m5 c5) o g6 (rowT (leafF l) a k N)) ∧ Hid (o ++ treeS j (rowT (leafF l) a k N) y = T)) (fun _ _ row _ => lenV row)
  case atStart => exact ⟨0, J, X, n, g, cap, _, _, _, [], rfl, rfl, rfl, ⟨by omega, HN.out, HX.out, rfl⟩, T0, HT⟩
  case round =>
    clear T0 HT
    obtain ⟨k, j, y, N, g6, c6, g5, m5, c5, o, rfl, rfl, rfl, HK, TW, HT⟩ := hrel
    cases j with
    | zero =>
      have HT2 : Hid (o = T) := by
        have := HT.out
        rwa [treeS, List.append_nil] at this
      obtain ⟨M, hM⟩ : ∃ M, M = N := ⟨_, rfl⟩
      have hN1 : N = 1 := HK.out.2.1
      have hn1 : ¬ (1 : Int) < (N : Int) := by omega
      have hn2 : ¬ 1 < N := by omega
      have HV : Hid (Q (.returned (.slice (some ⟨g5, 0, none⟩) m5 c5)) wr) := HQ.out _ wr (by rw [← HT2.out]; exact TW.out.row) TW.out.b
      clear HT HK TW hN1 hM
      go_wp2_with fail
      exact HV.out
    | succ j =>
      obtain ⟨M, hM⟩ : ∃ M, M = 2 ^ j := ⟨_, rfl⟩
      obtain ⟨q, hq⟩ : ∃ q, q = y % 2 := ⟨_, rfl⟩
      obtain ⟨z, hz⟩ : ∃ z, z = y + 1 - q * 2 := ⟨_, rfl⟩
      have hN2 : N = 2 * M := by rw [hM, HK.out.2.1, Nat.pow_succ']
      have hMl : M ≤ 20 ∧ N ≤ 20 ∧ a + N * 2 ^ k ≤ l.length ∧ y < N := by
        have h1 := HAL.out
        have h2 : N * 2 ^ k = 2 ^ J := by rw [HK.out.2.1, Nat.mul_comm, ← Nat.pow_add, HK.out.1]
        have h3 : N * 1 ≤ N * 2 ^ k := Nat.mul_le_mul_left _ (Nat.two_pow_pos k)
        have h4 := HK.out.2.2.1
        omega
      have HMl : Hid (M ≤ 20 ∧ N ≤ 20 ∧ a + N * 2 ^ k ≤ l.length ∧ y < N) := hMl
      have HN2 : Hid (N = 2 * M ∧ M = 2 ^ j ∧ k + (j + 1) = J) := ⟨hN2, hM, HK.out.1⟩
      have hM0 : 0 < M := by rw [hM]; exact Nat.two_pow_pos j
      have hq2 : q < 2 := by omega
      have hzN : z < N := by omega
      have HS : Hid (treeS (j + 1) (rowT (leafF l) a k N) y = (rowT (leafF l) a k N).getD z default :: treeS j (rowT (leafF l) a (k + 1) M) (y / 2)) := by
        show _ = _
        rw [treeS, ← hq, ← hz, hN2, upP_row]
      have hn1 : (1 : Int) < (N : Int) := by omega
      have hr1 : Int.tmod (y : Int) 2 = (q : Int) := by rw [hq]; rfl
      have hr2 : (y : Int) % 2 = (q : Int) := by omega
      have hw1 : IntKind.i64.wrap ((y : Int) + 1) = (y : Int) + 1 := by rw [IntKind.wrap_i64]; omega
      have hw2 : IntKind.i64.wrap ((q : Int) * 2) = (q : Int) * 2 := by rw [IntKind.wrap_i64]; omega
      have hw3 : IntKind.i64.wrap ((y : Int) + 1 - (q : Int) * 2) = (z : Int) := by rw [IntKind.wrap_i64]; omega
      have hwq : IntKind.i64.wrap (q : Int) = (q : Int) := by rw [IntKind.wrap_i64]; omega
      have lz0 : (0 : Int) ≤ (z : Int) := by omega
      have lz1 : (z : Int) < (N : Int) := by omega
      have hrl : z < (rowT (leafF l) a k N).length := by rw [rowT_len]; exact hzN
      have c0 := AtP.c0 TW.out.at_ z hrl
      have c1 := AtP.c1 TW.out.at_ z hrl
      have c2 := AtP.c2 TW.out.at_ z hrl
      have HOK1 : Hid (o.length = k) := HK.out.2.2.2
      clear hM hz hq hq2 HK hN2 hrl hMl
      generalize (rowT (leafF l) a k N).getD z default = s at c0 c1 c2 HS
      have HOL : Hid (o.length = m5) := by
        have h1 := TW.out.row
        obtain ⟨⟨g', c', hv⟩, _⟩ := h1
        simp only [Value.slice.injEq] at hv
        exact hv.2.1.symm
      have HO20 : Hid (o.length ≤ 1048576) := by
        show _ ≤ _
        have h1 := HAL.out
        have h2 : J < 2 ^ J := Nat.lt_two_pow_self
        have h3 := HN2.out.2.2
        have h4 := HOK1.out
        omega
      have hx1 : m5 + 1 ≤ maxLen := by have h1 := HOL.out; have h2 := HO20.out; unfold maxLen; omega
      have hx2 : (m5 + 1) * 32 ≤ 140737488355328 := by have h1 := HOL.out; have h2 := HO20.out; omega
      have hu := pEnc_one s
      have hsz := TW.out.b.size
      have HRW : Hid (wr.ownsRow w.heap.size 71 3 (.slice (some ⟨g5, 0, none⟩) m5 c5) m5 (o.flatMap pEnc)) := by
        have h1 := prow_own TW.out.row
        rwa [HOL.out] at h1
      go_upto_region 5 with (at_builtin; refine wp_appN rfl _ _ 26 rfl w.heap.size 71 i0 (.agg #[.string ⟨#[]⟩, .int .i64 0, .int .i64 0]) 3 32 1 Tryz.underlying26 hi hz0 hz1 hz2 rfl (by decide) (by decide) _ _ _ rfl HRW.out (pEnc s) (by first | rfl | simp [Act.eval]) rfl hu hx1 hx2 hsz ?_; intro g7 c7 w7 hown7 hb7 hkeep7)
      have P7 : Hid (PRow w.heap.size (.slice (some ⟨g7, 0, none⟩) (m5 + 1) c7) (o ++ [s]) w7) := by
        refine FRow.of ?_ ?_
        · rw [List.flatMap_append]
          simpa using hown7
        · rw [List.length_append, HOL.out]; rfl
      have A7 : Hid (AtP w7 g6 (rowT (leafF l) a k N)) := TW.out.at_.keepB (hkeep7 g6 TW.out.at_.1 TW.out.far) hb7.size
      have B7 : Hid (Below w.heap.size w w7) := TW.out.b.trans hb7
      have HT7 : Hid ((o ++ [s]) ++ treeS j (rowT (leafF l) a (k + 1) M) (y / 2) = T) := by
        show _ = _
        rw [← HT.out, HS.out, List.append_assoc]
        rfl
      have HOK2 : Hid ((o ++ [s]).length = k + 1) := by show _ = _; rw [List.length_append, HOK1.out]; rfl
      generalize o ++ [s] = o7 at P7 HT7 HOK2
      clear hown7 hb7 hkeep7 TW c0 c1 c2 HRW hx1 hx2 hu hsz hr1 hr2 hw1 hw2 hw3 hwq lz0 lz1 HT HS HO20 HOL HOK1 hzN
      go_wp2_with fail
      have R8 : Hid ((w7.alloc (.cells #[] 71)).ownsRow w7.heap.size 71 3 (.slice (some ⟨w7.heap.size, 0, none⟩) 0 0) 0 ((rowT (leafF l) a (k + 1) 0).flatMap pEnc)) := (frow_new pEnc 71 3 w7).2
      have B8 : Hid (Below w7.heap.size w7 (w7.alloc (.cells #[] 71))) := (Below.refl _ w7).alloc (Nat.le_refl _) _
      have HM0 : Hid (0 < M) := hM0
      clear hM0 hn1
      generalize w7.alloc (.cells #[] 71) = W8 at R8 B8 ⊢
      go_loopw [7, 8] (fun up ii wr => ∃ (i e g8 c8 : Nat), ii = .int .i64 (e : Int) ∧ up = .slice (some ⟨g8, 0, none⟩) i c8 ∧ Hid (e = 2 * i ∧ i ≤ M) ∧ Hid (wr.ownsRow w7.heap.size 71 3 (.slice (some ⟨g8, 0, none⟩) i c8) i ((rowT (leafF l) a (k + 1) i).flatMap pEnc)) ∧ Hid (Below w7.heap.size w7 wr)) (fun _ ii _ => N - (intOf ii).toNat)
      case atStart => exact ⟨0, 0, _, _, rfl, rfl, ⟨rfl, Nat.zero_le _⟩, R8, B8⟩
      case round =>
        clear R8 B8
        obtain ⟨i, e, g8, c8, rfl, rfl, HI, RW, HB⟩ := hrel
        by_cases hlt : i < M
        · have he2 := HI.out.1
          have hNM := HN2.out.1
          have hm20 := HMl.out
          have hl1 : e < (rowT (leafF l) a k N).length := by rw [rowT_len]; omega
          have hl2 : e + 1 < (rowT (leafF l) a k N).length := by rw [rowT_len]; omega
          have HAr : Hid (AtP wr g6 (rowT (leafF l) a k N)) := A7.out.below HB.out A7.out.1
          have hgw : g6 < wr.heap.size := HAr.out.1
          have HCL : Hid (∀ w' : World, w'.heap[g6]? = wr.heap[g6]? → (w'.cell? ⟨g6, e * 3, none⟩ = some (.string ((rowT (leafF l) a k N).getD e default).sum) ∧ w'.cell? ⟨g6, e * 3 + 1, none⟩ = some (.int .i64 ((rowT (leafF l) a k N).getD e default).work) ∧ w'.cell? ⟨g6, e * 3 + 2, none⟩ = some (.int .i64 ((rowT (leafF l) a k N).getD e default).count)) ∧ (w'.cell? ⟨g6, (e + 1) * 3, none⟩ = some (.string ((rowT (leafF l) a k N).getD (e + 1) default).sum) ∧ w'.cell? ⟨g6, (e + 1) * 3 + 1, none⟩ = some (.int .i64 ((rowT (leafF l) a k N).getD (e + 1) default).work) ∧ w'.cell? ⟨g6, (e + 1) * 3 + 2, none⟩ = some (.int .i64 ((rowT (leafF l) a k N).getD (e + 1) default).count))) := fun w' hw' =>
            ⟨⟨(World.cell?_of_block (a := ⟨g6, e * 3, none⟩) hw').trans (AtP.c0 HAr.out e hl1), (World.cell?_of_block (a := ⟨g6, e * 3 + 1, none⟩) hw').trans (AtP.c1 HAr.out e hl1), (World.cell?_of_block (a := ⟨g6, e * 3 + 2, none⟩) hw').trans (AtP.c2 HAr.out e hl1)⟩, ⟨(World.cell?_of_block (a := ⟨g6, (e + 1) * 3, none⟩) hw').trans (AtP.c0 HAr.out (e + 1) hl2), (World.cell?_of_block (a := ⟨g6, (e + 1) * 3 + 1, none⟩) hw').trans (AtP.c1 HAr.out (e + 1) hl2), (World.cell?_of_block (a := ⟨g6, (e + 1) * 3 + 2, none⟩) hw').trans (AtP.c2 HAr.out (e + 1) hl2)⟩⟩
          have HP1 : Hid (peakOkB ((rowT (leafF l) a k N).getD e default) = true) := HOK.out k N e hm20.2.2.1 (by omega)
          have HP2 : Hid (peakOkB ((rowT (leafF l) a k N).getD (e + 1) default) = true) := HOK.out k N (e + 1) hm20.2.2.1 (by omega)
          have HR2 : Hid (rowT (leafF l) a (k + 1) (i + 1) = rowT (leafF l) a (k + 1) i ++ [bothP ((rowT (leafF l) a k N).getD e default) ((rowT (leafF l) a k N).getD (e + 1) default)]) := by
            show _ = _
            rw [he2]
            exact row_two _ a k i N (by omega)
          have HNE : Hid (g8 ≠ g6 ∧ w7.heap.size ≤ g8) := by
            have h1 := ownE_is RW.out (b := g8) rfl
            have h2 := A7.out.1
            exact ⟨by omega, h1.2⟩
          clear hl1 hl2 HAr
          generalize (rowT (leafF l) a k N).getD e default = t1 at HCL HP1 HR2
          generalize (rowT (leafF l) a k N).getD (e + 1) default = t2 at HCL HP2 HR2
          obtain ⟨⟨q0, q1, q2⟩, q3, q4, q5⟩ := HCL.out wr rfl
          have hbo := fun w' => specL5Both t1 t2 w' HP1.out HP2.out
          unfold peakVal at hbo
          have HRL : Hid ((rowT (leafF l) a (k + 1) i).length = i) := rowT_len _ _ _ _
          generalize bothP t1 t2 = nq at hbo HR2
          have hu := pEnc_one nq
          have lk : (e : Int) < (N : Int) := by omega
          have lk2 : (e : Int) + 1 < (N : Int) := by omega
          have lk0 : (0 : Int) ≤ (e : Int) := by omega
          have lk1 : (0 : Int) ≤ (e : Int) + 1 := by omega
          have wk1 : IntKind.i64.wrap ((e : Int) + 1) = (e : Int) + 1 := by rw [IntKind.wrap_i64]; omega
          have wk2 : IntKind.i64.wrap ((e : Int) + 2) = (e : Int) + 2 := by rw [IntKind.wrap_i64]; omega
          have hx1 : i + 1 ≤ maxLen := by unfold maxLen; omega
          have hx2 : (i + 1) * 32 ≤ 140737488355328 := by omega
          have hsz := HB.out.size
          have HK1 : Hid (i + 1 ≤ M ∧ e + 2 = 2 * (i + 1)) := ⟨hlt, by omega⟩
          have hne := HNE.out.1
          clear he2 hNM hm20 hlt
          go_wp2_with fail
          go_region_held3 (fun w' => (w'.cell? ⟨g6, e * 3, none⟩ = some (.string t1.sum) ∧ w'.cell? ⟨g6, e * 3 + 1, none⟩ = some (.int .i64 t1.work) ∧ w'.cell? ⟨g6, e * 3 + 2, none⟩ = some (.int .i64 t1.count)) ∧ (w'.cell? ⟨g6, (e + 1) * 3, none⟩ = some (.string t2.sum) ∧ w'.cell? ⟨g6, (e + 1) * 3 + 1, none⟩ = some (.int .i64 t2.work) ∧ w'.cell? ⟨g6, (e + 1) * 3 + 2, none⟩ = some (.int .i64 t2.count)))
            (first | go_keep | (exact HCL.out _ (b1.block g6 hgw)) | (exact HCL.out _ (((hgrow4.block g6 (by simp; omega) (by simpa [Value.ownBlock] using hne.symm)).trans (Below.heap_alloc _ _ _ (by omega))).trans (b1.block g6 hgw))))
            (first
              | (go_at_call 95; refine (hbo _).mono ?_; rintro e w1 ⟨rfl, b0⟩; have b1 : Below wr.heap.size wr w1 := ((Below.refl wr.heap.size wr).drew).trans b0; have hb1s : wr.heap.size ≤ w1.heap.size := b1.size; clear b0)
              | ((refine step_append_lies _ (by rfl) _ _ 26 (by rfl) w7.heap.size 71 i0 (.agg #[.string ⟨#[]⟩, .int .i64 0, .int .i64 0]) 3 32 Tryz.underlying26 hi hz0 hz1 hz2 rfl (by decide) _ i _ (by rfl) (World.ownsRow.alloc (ownE_keep RW.out (fun b _ hlt => b1.block b hlt)) _) ⟨w1.heap.size, 0, none⟩ 1 1 (pEnc nq) (by rfl) rfl (cells_new w1 71 (pEnc nq)) hu (by decide) hx1 hx2 (by simp; omega) _ rfl ?_; intro g4 c4 w4 hown4 hgrow4 hat4 hlt4)))
          have hb4 : Hid (Below w7.heap.size w7 w4) := ((HB.out.trans (b1.mono hsz)).alloc (by omega) _).grown hgrow4 (by simp; omega) (fun j hj => by
            have : g8 = j := by simpa [Value.ownBlock] using hj
            have := HNE.out.2
            omega)
          have HR4 : Hid (w4.ownsRow w7.heap.size 71 3 (.slice (some ⟨g4, 0, none⟩) (i + 1) c4) (i + 1) ((rowT (leafF l) a (k + 1) (i + 1)).flatMap pEnc)) := by
            have h5 : w4.ownsRow w7.heap.size 71 3 (.slice (some ⟨g4, 0, none⟩) (i + 1) c4) (i + 1) ((rowT (leafF l) a (k + 1) (i + 1)).flatMap pEnc) := by
              rw [HR2.out, List.flatMap_append]
              simpa using hown4
            exact h5
          clear hown4 hgrow4 hat4 hlt4 b1 q0 q1 q2 q3 q4 q5
          go_wp2_with fail
          go_roundw
          case rel => exact ⟨i + 1, e + 2, g4, c4, by go_num, rfl, ⟨HK1.out.2, HK1.out.1⟩, HR4, hb4⟩
          case measure => have := HK1.out; have := HN2.out; simp [intOf]; omega
        · obtain rfl : i = M := by have := HI.out.2; omega
          have hd1 : Int.tdiv (y : Int) 2 = ((y / 2 : Nat) : Int) := rfl
          have hyN : Hid (y < N) := HMl.out.2.2.2
          have lk : ¬ (e : Int) < (N : Int) := by have h1 := HI.out.1; have h2 := HN2.out.1; omega
          have lkn : ¬ e < N := by have h1 := HI.out.1; have h2 := HN2.out.1; omega
          have hm20 := HMl.out.2.1
          have TN : Hid (TreeW w wr (.slice (some ⟨g7, 0, none⟩) (m5 + 1) c7) o7 g8 (rowT (leafF l) a (k + 1) i)) := by
            have h1 := RW.out
            have h2 : FRow pEnc 71 3 w7.heap.size (.slice (some ⟨g8, 0, none⟩) i c8) (rowT (leafF l) a (k + 1) i) wr := FRow.of h1 (rowT_len _ _ _ _).symm
            have h3 := (FRow.at pEnc_len h2).1
            obtain ⟨g', c', cur, hv, hB, hlt', _⟩ := P7.out.block
            have hg : g7 = g' := by
              simp only [Value.slice.injEq, Option.some.injEq, Addr.mk.injEq, and_true] at hv
              exact hv.1
            refine ⟨FRow.below P7.out HB.out, h3, ?_, B7.out.trans (HB.out.mono B7.out.size)⟩
            have h4 := (ownE_is h1 (b := g8) rfl).2
            simp only [Value.ownBlock, ne_eq, Option.some.injEq]
            omega
          have HEN : Hid (N = 2 * i ∧ i = 2 ^ j ∧ k + 1 + j = J ∧ y < N ∧ 0 < i) := ⟨HN2.out.1, HN2.out.2.1, by have := HN2.out.2.2; omega, hyN.out, HM0.out⟩
          clear P7 A7 B7 RW HB HI
          go_wp2_with fail
          go_roundw
          case rel => exact ⟨k + 1, j, y / 2, i, g8, c8, g7, m5 + 1, c7, o7, congrArg (Value.int .i64) (by have h1 := HEN.out; have h2 := HMl.out; rw [← IntWalk.i64_left, IntKind.wrap_i64]; omega), rfl, rfl, ⟨HEN.out.2.2.1, HEN.out.2.1, by have := HEN.out; omega, HOK2.out⟩, TN, HT7⟩
          case measure => have := HEN.out; simp [lenV]; omega
end Go.Proofs.YtoifgpmbeicmnaaGreatDoor

set_option linter.unusedVariables false
namespace Go.Proofs.YtoifgpmbeicmnaaGreatDoor
open Go.RowKit Go.Deep

theorem CBk.pairF {w : World} {g : Nat} {T : TypeId} {a b : Value} (h : CBk w g T #[a, b]) : w.cell? ⟨g, 0, none⟩ = some a ∧ w.cell? ⟨g, 1, none⟩ = some b ∧ w.frozen? ⟨g, 0, none⟩ = false ∧ w.frozen? ⟨g, 1, none⟩ = false :=
  ⟨h.cell 0, h.cell 1, h.frozen 0, h.frozen 1⟩
set_option maxHeartbeats 4000000 in
set_option maxRecDepth 100000 in
theorem implRangeProofNo (g n cap : Nat) (l : List HeadV) (x : Int) (w : World) (hA : AtHead w g l) (hn : n = l.length) (hm : n ≤ 1048576) (hc : ¬ (headsB l = true ∧ 0 ≤ x ∧ x < (l.length : Int))) :
    Calls Tryz.prog 20 #[.slice (some ⟨g, 0, none⟩) n cap, .int .i64 x] w fun e w' => PrfPost l x w e w' ∧ Dis e := by
  have HHS : Hid (∀ w', Below w.heap.size w w' → Calls Tryz.prog 45 #[.slice (some ⟨g, 0, none⟩) n cap] w' fun e w'' => e = .returned (.bool (headsB l)) ∧ Below w'.heap.size w' w'') := fun w' hb => implRangeHeadsOk g n cap l w' (hA.below hb hA.1) hn hm
  have HC : Hid (headsB l = true → ¬ x < 0 → ¬ x < (n : Int)) := fun h1 h2 h3 => hc ⟨h1, by omega, by omega⟩
  have HV : Hid (∀ w', Below w.heap.size w w' → PrfPost l x w (.returned (.agg #[.slice none 0 0, .slice none 0 0])) w' ∧ Dis (.returned (.agg #[.slice none 0 0, .slice none 0 0]))) := fun w' hb => prf_no hc hb
  obtain ⟨Q, hQ⟩ : ∃ Q : Ending → World → Prop, Q = fun e w' => PrfPost l x w e w' ∧ Dis e := ⟨_, rfl⟩
  have HV2 : Hid (∀ w', Below w.heap.size w w' → Q (.returned (.agg #[.slice none 0 0, .slice none 0 0])) w') := fun w' hb => by rw [hQ]; exact HV.out w' hb
  show Calls _ _ _ _ (fun e w' => PrfPost l x w e w' ∧ Dis e)
  rw [← hQ]
  clear hQ HV hA hn hm hc
  have L0 : Hid (Below w.heap.size w (w.alloc (.cells #[.slice none 0 0, .slice none 0 0] 28))) := (Below.refl _ w).alloc (Nat.le_refl _) _
  have T0 : Hid (CBk (w.alloc (.cells #[.slice none 0 0, .slice none 0 0] 28)) w.heap.size 28 #[.slice none 0 0, .slice none 0 0]) := CBk.new w _ _
  obtain ⟨g4, hg4⟩ : ∃ g4, g4 = w.heap.size := ⟨_, rfl⟩
  have HG4 : Hid (w.heap.size ≤ g4) := Nat.le_of_eq hg4.symm
  have HEND : Hid (∀ w1, Below w.heap.size w w1 → CBk w1 g4 28 #[.slice none 0 0, .slice none 0 0] → CBk ((w1.setCell ⟨g4, 0, none⟩ (.slice none 0 0)).setCell ⟨g4, 1, none⟩ (.slice none 0 0)) g4 28 #[.slice none 0 0, .slice none 0 0] ∧ Below w.heap.size w ((w1.setCell ⟨g4, 0, none⟩ (.slice none 0 0)).setCell ⟨g4, 1, none⟩ (.slice none 0 0))) := fun w1 hb h => ⟨(h.set 0 _).set 1 _, (hb.setCell (p := ⟨g4, 0, none⟩) HG4.out _).setCell (p := ⟨g4, 1, none⟩) HG4.out _⟩
  go_enter Tryz.func20, Tryz.ntmps20
  go_wp2_with fail
  have hhs := HHS.out _ L0.out
  rw [← hg4] at T0 ⊢
  clear hg4
  refine hhs.mono ?_
  rintro e w1 ⟨rfl, b1⟩
  have B1 : Hid (Below w.heap.size w w1) := L0.out.trans (b1.mono L0.out.size)
  have T1 : Hid (CBk w1 g4 28 #[.slice none 0 0, .slice none 0 0]) := T0.out.call b1
  clear hhs HHS b1 T0 L0
  have TE : Hid _ := HEND.out w1 B1.out T1.out
  obtain ⟨c0, c1, f0, f1⟩ := T1.out.pairF
  cases hk : headsB l with
  | false =>
    clear HC
    go_wp2_with fail
    exact bodyPost_ret (results_cell_row (p := 4) rfl _ _ g4 28 #[.slice none 0 0, .slice none 0 0] (0, 0) _ rfl TE.out.1 Tryz.underlying28 rfl (by kernel_rfl)) rfl (HV2.out _ TE.out.2)
  | true =>
    by_cases hx : x < 0
    · clear HC
      go_wp2_with fail
      exact bodyPost_ret (results_cell_row (p := 4) rfl _ _ g4 28 #[.slice none 0 0, .slice none 0 0] (0, 0) _ rfl TE.out.1 Tryz.underlying28 rfl (by kernel_rfl)) rfl (HV2.out _ TE.out.2)
    · have hx2 : ¬ x < (n : Int) := by have := HC.out hk (by omega); omega
      clear HC
      go_wp2_with fail
      exact bodyPost_ret (results_cell_row (p := 4) rfl _ _ g4 28 #[.slice none 0 0, .slice none 0 0] (0, 0) _ rfl TE.out.1 Tryz.underlying28 rfl (by kernel_rfl)) rfl (HV2.out _ TE.out.2)
set_option maxHeartbeats 8000000 in
set_option maxRecDepth 100000 in
theorem implRangeProofYes (g n cap : Nat) (l : List HeadV) (X : Nat) (w : World) (hA : AtHead w g l) (hn : n = l.length) (hk : headsB l = true) (hX : X < l.length) (hK : RowG w shaK) (hP : TabP w) :
    Calls Tryz.prog 20 #[.slice (some ⟨g, 0, none⟩) n cap, .int .i64 (X : Int)] w fun e w' => PrfPost l (X : Int) w e w' ∧ Dis e := by
  have HM : Hid (n ≤ 20) := by show _ ≤ _; have := heads_len hk; omega
  have HHS : Hid (∀ w', Below w.heap.size w w' → Calls Tryz.prog 45 #[.slice (some ⟨g, 0, none⟩) n cap] w' fun e w'' => e = .returned (.bool true) ∧ Below w'.heap.size w' w'') := fun w' hb => by
    have := implRangeHeadsOk g n cap l w' (hA.below hb hA.1) hn (by have := HM.out; omega)
    rwa [hk] at this
  have HA : Hid (AtHead w g l) := hA
  have HN : Hid (n = l.length) := hn
  have HPU : Hid (∀ w1, Below w.heap.size w w1 → ∀ k, k < n → ∀ (w' : World) (gp gs : Nat) (a : Option Addr) (m c : Nat), NSt w1 w' gp gs a m c (stS l X k) (notesN (leafF l) X k) → Calls Tryz.prog 50 #[.pointer (some ⟨gs, 0, none⟩), .agg #[.string (leafP (l.getD k default)).sum, .int .i64 (leafP (l.getD k default)).work, .int .i64 (leafP (l.getD k default)).count, .bool ((k : Int) == (X : Int))]] w' fun e w'' => NPush w1 gp gs (stS l X (k + 1)) (notesN (leafF l) X (k + 1)) e w'') := fun w1 hb1 k hkn w' gp gs a m c hs => by
    obtain ⟨h1, h2, h3⟩ := ofP_ok (heads_at hk) (heads_len hk) k (by omega)
    have hh := heads_at hk k (by omega)
    have hl20 := heads_len hk
    have h4 := stS_len l X k
    have h5 := notes_len (heads_at hk) hl20 X (k + 1) (by omega)
    have h6 := implPushN w1 gp gs (stS l X k) (leafF l k, decide (k = X)) (notesN (leafF l) X k) w' a m c hs (by omega) (by rw [stS_fst]; exact fun i hi => getD_all (C := fun q => peakOkB q = true) h1 i hi) (by rw [stS_fst]; exact room_leaf hh (by rw [h2]; omega)) (by rw [noteS_step]; omega) (hK.below hb1 hK.lt) (TabP.below hP hb1 (Nat.le_refl _))
    have hbq : ((k : Int) == (X : Int)) = decide (k = X) := by rw [Bool.eq_iff_iff]; simp only [beq_iff_eq, decide_eq_true_eq]; omega
    rw [stS_step, noteS_step] at h6
    rw [hbq]
    exact h6
  have HPH : Hid (∀ k, k < n → ∀ (w' : World), Below w.heap.size w w' → Calls Tryz.prog 51 #[headVal (l.getD k default)] w' fun e w'' => e = .returned (peakVal (leafP (l.getD k default))) ∧ Below w'.heap.size w' w'') := fun k hkn w' hb => implPeakHead _ w' (heads_at hk k (by omega)) (hK.below hb hK.lt) (TabP.below hP hb (Nat.le_refl _))
  unfold headVal at HPH
  unfold peakVal at HPH
  have HYES : Hid (∀ (w' : World) (vp vs : Value) (B : Nat), w'.ownsRow B 71 3 vp (ofP l n).length ((ofP l n).flatMap pEnc) → w'.ownsRow w.heap.size 71 3 vs (notesN (leafF l) X n).length ((notesN (leafF l) X n).flatMap pEnc) → w.heap.size ≤ B → (∀ b, vs.ownBlock = some b → b < B) → Below w.heap.size w w' → PrfPost l (X : Int) w (.returned (.agg #[vp, vs])) w' ∧ Dis (.returned (.agg #[vp, vs]))) := fun w' vp vs B h1 h2 h3 h4 h5 => prf_yes hk hX (by rw [← hn]; exact h1) (by rw [← hn]; exact h2) h3 h4 h5
  obtain ⟨Q, hQ⟩ : ∃ Q : Ending → World → Prop, Q = fun e w' => PrfPost l (X : Int) w e w' ∧ Dis e := ⟨_, rfl⟩
  have HY : Hid (∀ (w' : World) (vp vs : Value) (B : Nat), w'.ownsRow B 71 3 vp (ofP l n).length ((ofP l n).flatMap pEnc) → w'.ownsRow w.heap.size 71 3 vs (notesN (leafF l) X n).length ((notesN (leafF l) X n).flatMap pEnc) → w.heap.size ≤ B → (∀ b, vs.ownBlock = some b → b < B) → Below w.heap.size w w' → Q (.returned (.agg #[vp, vs])) w') := fun w' vp vs B h1 h2 h3 h4 h5 => by rw [hQ]; exact HYES.out w' vp vs B h1 h2 h3 h4 h5
  show Calls _ _ _ _ (fun e w' => PrfPost l (X : Int) w e w' ∧ Dis e)
  rw [← hQ]
  have hxn : (X : Int) < (n : Int) := by omega
  have hx0 : ¬ (X : Int) < 0 := by omega
  clear hQ HYES hA hn hK hP hk hX
  have L0 : Hid (Below w.heap.size w (w.alloc (.cells #[.slice none 0 0, .slice none 0 0] 28))) := (Below.refl _ w).alloc (Nat.le_refl _) _
  have T0 : Hid (CBk (w.alloc (.cells #[.slice none 0 0, .slice none 0 0] 28)) w.heap.size 28 #[.slice none 0 0, .slice none 0 0]) := CBk.new w _ _
  obtain ⟨g4, hg4⟩ : ∃ g4, g4 = w.heap.size := ⟨_, rfl⟩
  have HG4 : Hid (w.heap.size ≤ g4) := Nat.le_of_eq hg4.symm
  go_enter Tryz.func20, Tryz.ntmps20
  go_wp2_with fail
  have hhs := HHS.out _ L0.out
  rw [← hg4] at T0 ⊢
  clear hg4
  refine hhs.mono ?_
  rintro e w1 ⟨rfl, b1⟩
  have B1 : Hid (Below w.heap.size w w1) := L0.out.trans (b1.mono L0.out.size)
  have T1 : Hid (CBk w1 g4 28 #[.slice none 0 0, .slice none 0 0]) := T0.out.call b1
  clear hhs HHS b1 T0 L0
  go_upto_region 5 with fail
  have hd : decide ((X : Int) < 0) = false := decide_eq_false (by omega)
  have hd2 : decide (n ≤ X) = false := decide_eq_false (by omega)
  simp only [hd, hd2, Bool.or_false]
  clear hd hd2
  have S0 : Hid (NSt w1 ((w1.alloc (.cells #[.slice none 0 0, .slice none 0 0] 28)).alloc (.cells #[.slice none 0 0, .func (.func 46) #[] #[], .func (.func 48) #[] #[.pointer (some ⟨w1.heap.size, 0, none⟩)]] 80)) w1.heap.size (w1.heap.size + 1) none 0 0 (stS l X 0) (notesN (leafF l) X 0)) := NSt.open _ rfl
  have HPU1 : Hid _ := HPU.out w1 B1.out
  generalize (w1.alloc (.cells #[.slice none 0 0, .slice none 0 0] 28)).alloc (.cells #[.slice none 0 0, .func (.func 46) #[] #[], .func (.func 48) #[] #[.pointer (some ⟨w1.heap.size, 0, none⟩)]] 80) = W2 at S0 ⊢
  obtain ⟨gp, hgp⟩ : ∃ gp, gp = w1.heap.size := ⟨_, rfl⟩
  have HGP : Hid (gp = w1.heap.size) := hgp
  obtain ⟨gs, hgs⟩ : ∃ gs, gs = w1.heap.size + 1 := ⟨_, rfl⟩
  rw [← hgs, ← hgp] at S0
  rw [← hgs, ← hgp]
  clear hgs hgp HPU
  go_wp2_with fail
  go_loopw [29] (fun i wr => ∃ (k : Nat) (a : Option Addr) (m c : Nat), k ≤ n ∧ i = .int .i64 (k : Int) ∧ Hid (NSt w1 wr gp gs a m c (stS l X k) (notesN (leafF l) X k))) (fun i _ => n - (intOf i).toNat)
  case atStart => exact ⟨0, none, 0, 0, by omega, rfl, S0⟩
  case round =>
    clear S0
    obtain ⟨k, a, m, c, hk, rfl, SK⟩ := hrel
    by_cases hlt : k < n
    · have hkl : k < l.length := by rw [← HN.out]; exact hlt
      have HBW : Hid (Below w.heap.size w wr) := B1.out.trans (SK.out.f.b.mono B1.out.size)
      have HAr := HA.out.below HBW.out HA.out.1
      have c0 := AtHead.c0 HAr k hkl
      have c1 := AtHead.c1 HAr k hkl
      have c2 := AtHead.c2 HAr k hkl
      have c3 := AtHead.c3 HAr k hkl
      have c4 := AtHead.c4 HAr k hkl
      have lk : (k : Int) < (n : Int) := by omega
      have lk0 : (0 : Int) ≤ (k : Int) := by omega
      have wk : IntKind.i64.wrap ((k : Int) + 1) = (k : Int) + 1 := by have := HM.out; rw [IntKind.wrap_i64]; omega
      have HK1 : Hid (k + 1 ≤ n) := hlt
      have HPUk : Hid _ := HPU1.out k hlt
      have HPHk := HPH.out k hlt
      have HPHk : Hid _ := HPHk
      clear hkl HAr
      generalize leafP (l.getD k default) = p at HPUk HPHk
      generalize l.getD k default = h at c0 c1 c2 c3 c4 HPHk
      have L0 : Hid (Below wr.heap.size wr (wr.alloc (.cells #[.string h.prev, .string h.root, .int .i64 h.time, .int .i64 h.diff, .int .i64 h.nonce] 25))) := (Below.refl _ wr).alloc (Nat.le_refl _) _
      have SA : Hid (NSt w1 (wr.alloc (.cells #[.string h.prev, .string h.root, .int .i64 h.time, .int .i64 h.diff, .int .i64 h.nonce] 25)) gp gs a m c (stS l X k) (notesN (leafF l) X k)) := SK.out.call L0.out
      have hph := HPHk.out _ (B1.out.trans (SA.out.f.b.mono B1.out.size))
      clear SK HPHk
      go_wp2_with fail
      refine hph.mono ?_
      rintro e w3 ⟨rfl, b3⟩
      have S3 : Hid (NSt w1 w3 gp gs a m c (stS l X k) (notesN (leafF l) X k)) := SA.out.call b3
      have hpu := HPUk.out _ _ _ _ _ _ S3.out
      clear SA b3 hph HPUk c0 c1 c2 c3 c4 L0
      go_wp2_with fail
      refine Calls.mono hpu ?_
      rintro e w4 ⟨rfl, a4, m4, c4, hs4⟩
      have S4 : Hid (NSt w1 w4 gp gs a4 m4 c4 (stS l X (k + 1)) (notesN (leafF l) X (k + 1))) := hs4
      clear hs4 hpu S3
      go_wp2_with fail
      go_roundw
      case rel => exact ⟨k + 1, a4, m4, c4, HK1.out, by go_num, S4⟩
      case measure => have := HK1.out; simp [intOf]; omega
    · obtain rfl : k = n := by omega
      clear HPU1 HPH HA
      obtain ⟨i0, hi, hz0, hz1, hz2⟩ := info3 infoPeak
      obtain ⟨vs, hpf⟩ := id SK.out.f
      have HPF : Hid (PfW w1 wr gp vs (notesN (leafF l) X k)) := hpf
      have HVS : Hid (∃ a m c, vs = .slice a m c) := own_slice hpf.row
      have HPT : Hid (ofP l k = (stS l X k).map Prod.fst) := (stS_fst l X k).symm
      have HML : Hid ((stS l X k).length = m) := SK.out.len
      have HMM : Hid (m ≤ 1048576) := by show _ ≤ _; have h1 := SK.out.len; have h2 := stS_len l X k; have h3 := ofP_len_le l k; have := HM.out; omega
      have HYF : Hid (∀ (w' : World) (vp : Value), PkW w1 wr w' gp vp vs (ofP l k) → Q (.returned (.agg #[vp, vs])) ((w'.setCell ⟨g4, 0, none⟩ vp).setCell ⟨g4, 1, none⟩ vs) ∧ CBk ((w'.setCell ⟨g4, 0, none⟩ vp).setCell ⟨g4, 1, none⟩ vs) g4 28 #[vp, vs]) := fun w' vp h => by
        obtain ⟨h1, h2, h3, h4, h5, h6⟩ := h.fin HPF.out T1.out B1.out HG4.out
        exact ⟨HY.out _ vp vs _ h2 h3 h4 h5 h6, h1⟩
      have PS : Hid (PkW w1 wr wr gp (.slice none 0 0) vs []) := PkW.start HPF.out
      have HGR : Hid (∀ r, a = some ⟨r, 0, none⟩ → r < wr.heap.size ∧ r ≠ gp ∧ AtF nEnc 4 wr r (stS l X k)) := fun r hr => by
        have h1 := SK.out
        subst hr
        obtain ⟨⟨cur, hc⟩, _⟩ := ownE_is h1.row (b := r) rfl
        exact ⟨hc.lt, cbk_ne hc HPF.out.k ntf, h1.at.1⟩
      have HAS : Hid (0 < m → ∃ r, a = some ⟨r, 0, none⟩) := fun hm0 => by
        obtain ⟨r, cap, hv, _⟩ := SK.out.row.form hm0
        simp only [Value.slice.injEq] at hv
        exact ⟨r, hv.1⟩
      have HLW : Hid (w1.heap.size ≤ wr.heap.size) := HPF.out.b.size
      obtain ⟨a0, a1, a2⟩ := SK.out.outs
      clear SK HPF hpf HY
      go_wp2_with fail
      clear a0 a1 a2
      rw [HPT.out] at HYF
      clear HPT
      generalize stS l X k = st at HYF HML HGR
      generalize hwB : wr = wB at *
      go_loopw [45] (fun i wr => ∃ (j : Nat) (vp : Value), j ≤ m ∧ i = .int .i64 (j : Int) ∧ Hid (PkW w1 wB wr gp vp vs ((st.map Prod.fst).take j))) (fun i _ => m - (intOf i).toNat)
      case atStart => exact ⟨0, _, by omega, rfl, PS⟩
      case round =>
        clear PS
        obtain ⟨j, vp, hj, rfl, PW⟩ := hrel
        by_cases hjl : j < m
        · obtain ⟨r, hr⟩ := HAS.out (by omega)
          subst hr
          obtain ⟨hr1, hr2, hr3⟩ := HGR.out r rfl
          have hjs : j < st.length := by rw [HML.out]; exact hjl
          have c0 : wr.cell? ⟨r, j * 4, none⟩ = some (.string (st.getD j default).1.sum) := (PW.out.at hr1 hr2).trans (hr3.2 j 0 hjs (by decide))
          have c1 : wr.cell? ⟨r, j * 4 + 1, none⟩ = some (.int .i64 (st.getD j default).1.work) := (PW.out.at hr1 hr2).trans (hr3.2 j 1 hjs (by decide))
          have c2 : wr.cell? ⟨r, j * 4 + 2, none⟩ = some (.int .i64 (st.getD j default).1.count) := (PW.out.at hr1 hr2).trans (hr3.2 j 2 hjs (by decide))
          have c3 : wr.cell? ⟨r, j * 4 + 3, none⟩ = some (.bool (st.getD j default).2) := (PW.out.at hr1 hr2).trans (hr3.2 j 3 hjs (by decide))
          have HTK : Hid ((st.map Prod.fst).take (j + 1) = (st.map Prod.fst).take j ++ [(st.getD j default).1]) := by
            show _ = _
            rw [← fst_at hjs]
            exact take_one (by rw [List.length_map]; exact hjs)
          have HPL : Hid (((st.map Prod.fst).take j).length = j) := by show _ = _; rw [List.length_take, List.length_map]; omega
          have lk : (j : Int) < (m : Int) := by omega
          have lk0 : (0 : Int) ≤ (j : Int) := by omega
          have wk : IntKind.i64.wrap ((j : Int) + 1) = (j : Int) + 1 := by have := HMM.out; rw [IntKind.wrap_i64]; omega
          have HJ1 : Hid (j + 1 ≤ m) := hjl
          clear hr3 hjs
          generalize st.getD j default = t at c0 c1 c2 c3 HTK
          have PA : Hid (PkW w1 wB (wr.alloc (.cells #[.string t.1.sum, .int .i64 t.1.work, .int .i64 t.1.count, .bool t.2] 73)) gp vp vs ((st.map Prod.fst).take j)) := PW.out.call ((Below.refl _ wr).alloc (Nat.le_refl _) _)
          have TA : Hid (NBk (wr.alloc (.cells #[.string t.1.sum, .int .i64 t.1.work, .int .i64 t.1.count, .bool t.2] 73)) wr.heap.size t) := CBk.new wr _ _
          go_upto_region 13 with fail
          clear c0 c1 c2 c3 PW
          generalize wr.alloc (.cells #[.string t.1.sum, .int .i64 t.1.work, .int .i64 t.1.count, .bool t.2] 73) = wa at PA TA ⊢
          obtain ⟨gt, hgt⟩ : ∃ gt, gt = wr.heap.size := ⟨_, rfl⟩
          rw [← hgt] at TA ⊢
          clear hgt
          obtain ⟨d0, d1, d2, d3⟩ := TA.out.four
          have p0 : wa.cell? ⟨gp, 0, none⟩ = some vp := PA.out.k.cell 0
          generalize (st.map Prod.fst).take j = ps at PA HTK HPL
          have hx1 : ps.length + 1 ≤ maxLen := by have := HPL.out; have := HMM.out; unfold maxLen; omega
          have hx2 : (ps.length + 1) * 32 ≤ 140737488355328 := by have := HPL.out; have := HMM.out; omega
          have hu := pEnc_one t.1
          have hsz : wB.heap.size ≤ wa.heap.size := PA.out.size
          have HRW : Hid (wa.ownsRow wB.heap.size 71 3 vp ps.length (ps.flatMap pEnc)) := PA.out.row
          have HTW : Hid (∀ w4 : World, Below wB.heap.size wa w4 → w4.cell? ⟨gp, 0, none⟩ = some vp ∧ w4.frozen? ⟨gp, 0, none⟩ = false) := fun w4 h => PA.out.keep4 h
          go_upto_region 14 with (at_builtin; refine wp_appN rfl _ _ 26 rfl wB.heap.size 71 i0 (.agg #[.string ⟨#[]⟩, .int .i64 0, .int .i64 0]) 3 32 1 Tryz.underlying26 hi hz0 hz1 hz2 rfl (by decide) (by decide) _ _ _ rfl HRW.out (pEnc t.1) (by first | rfl | simp [Act.eval]) rfl hu hx1 hx2 hsz ?_; intro g6 c6 w6 hown6 hb6 hkeep6; obtain ⟨q6, z6⟩ := HTW.out _ hb6)
          have P6 : Hid (PkW w1 wB (w6.setCell ⟨gp, 0, none⟩ (.slice (some ⟨g6, 0, none⟩) (ps.length + 1) c6)) gp (.slice (some ⟨g6, 0, none⟩) (ps.length + 1) c6) vs (ps ++ [t.1])) := PA.out.laid hown6 hb6 HLW.out
          rw [← HTK.out] at P6
          clear d0 d1 d2 d3 p0 hx1 hx2 hu hsz HRW HTW q6 z6 hown6 hb6 hkeep6 PA TA
          go_wp2_with fail
          go_roundw
          case rel => exact ⟨j + 1, _, HJ1.out, by go_num, P6⟩
          case measure => have := HJ1.out; simp [intOf]; omega
        · obtain rfl : j = m := by omega
          have hta : (st.map Prod.fst).take j = st.map Prod.fst := by rw [← HML.out, ← List.length_map (f := Prod.fst), List.take_length]
          rw [hta] at PW
          clear hta
          obtain ⟨pa, pn, pc, rfl⟩ := own_slice PW.out.row
          obtain ⟨sa, sn, sc, rfl⟩ := HVS.out
          obtain ⟨hq, hcb⟩ := HYF.out wr _ PW.out
          have HQF : Hid (Q (.returned (.agg #[.slice pa pn pc, .slice sa sn sc])) ((wr.setCell ⟨g4, 0, none⟩ (.slice pa pn pc)).setCell ⟨g4, 1, none⟩ (.slice sa sn sc))) := hq
          have HCF : Hid (CBk ((wr.setCell ⟨g4, 0, none⟩ (.slice pa pn pc)).setCell ⟨g4, 1, none⟩ (.slice sa sn sc)) g4 28 #[.slice pa pn pc, .slice sa sn sc]) := hcb
          obtain ⟨e0, e1, f0, f1⟩ := (PW.out.last T1.out).pairF
          have p0 : wr.cell? ⟨gp, 0, none⟩ = some (.slice pa pn pc) := PW.out.k.cell 0
          have p1 : wr.cell? ⟨gp, 1, none⟩ = some (.slice sa sn sc) := PW.out.k.cell 1
          clear hq hcb HYF
          go_wp2_with fail
          exact bodyPost_ret (results_cell_row (p := 4) rfl _ _ g4 28 #[.slice pa pn pc, .slice sa sn sc] (0, 0) _ rfl HCF.out Tryz.underlying28 rfl (by kernel_rfl)) rfl HQF.out
theorem implRangeProof (g n cap : Nat) (l : List HeadV) (x : Int) (w : World) (hA : AtHead w g l) (hn : n = l.length) (hm : n ≤ 1048576) (hK : RowG w shaK) (hP : TabP w) :
    Calls Tryz.prog 20 #[.slice (some ⟨g, 0, none⟩) n cap, .int .i64 x] w fun e w' => PrfPost l x w e w' ∧ Dis e := by
  by_cases hc : headsB l = true ∧ 0 ≤ x ∧ x < (l.length : Int)
  · obtain ⟨hk, hx0, hxl⟩ := hc
    obtain ⟨X, rfl⟩ : ∃ X : Nat, x = (X : Int) := ⟨x.toNat, by omega⟩
    exact implRangeProofYes g n cap l X w hA hn hk (by omega) hK hP
  · exact implRangeProofNo g n cap l x w hA hn hm hc
end Go.Proofs.YtoifgpmbeicmnaaGreatDoor

