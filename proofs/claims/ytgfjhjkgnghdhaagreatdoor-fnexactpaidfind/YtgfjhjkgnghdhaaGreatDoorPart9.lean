/-
  PaidFind answers as the specification at every list of blocks and item, field by field, writes into no argument, and its answer owns its memory; for every input, no condition; the tables of the program as its text lays them.
-/
import Derived.Test.YtgfjhjkgnghdhaaGreatDoorPart1
import Derived.Test.YtgfjhjkgnghdhaaGreatDoorPart2
import Derived.Test.YtgfjhjkgnghdhaaGreatDoorPart3
import Derived.Test.YtgfjhjkgnghdhaaGreatDoorPart4
import Derived.Test.YtgfjhjkgnghdhaaGreatDoorPart5
import Derived.Test.YtgfjhjkgnghdhaaGreatDoorPart6
import Derived.Test.YtgfjhjkgnghdhaaGreatDoorPart7
import Derived.Test.YtgfjhjkgnghdhaaGreatDoorPart8
import Derived.WalkKit
import Derived.WalkSpells
import Derived.Below
import Derived.Lib.UnsafeStr
import Derived.Lib.FrozenHead2
import Derived.Lib.Builder
import Derived.Deep.MidRow
import Derived.BigRegion
import Derived.Deep.RegionWith
import Derived.Maps.AppendAt
import Derived.Test.YtgfjhjkgnghdhaaGreatDoorProg
import Derived.Lib.BufferRead
import Derived.OwnWalk
import Derived.Lib.AppendIntMem
import Derived.Test.YtgfjhjkgnghdhaaGreatDoorCards
import Derived.Test.YtgfjhjkgnghdhaaGreatDoorTie
import Derived.ProofKit
import Derived.OpenShut
import Derived.ShutString
import Derived.ChangeOld
import Derived.ChangeVars
import Derived.Carry
import Derived.Deep.DeepHandedRow
import Derived.Lib.LaidTab
set_option linter.unusedVariables false
namespace Go.Proofs.YtgfjhjkgnghdhaaGreatDoor
open Go.RowKit Go.Deep Go.Joins

section
variable {P : Program} {w : World}
theorem run_append_none (t ty e : TypeId) (i : TypeInfo) (ht : P.underlying t = some (.slice e)) (hi : P.info? e = some i) {base size n : Nat} {v : Value} {xs : List Value} (hown : w.ownsRow base e size v n xs) :
    (Builtin.append_ #[t, t] ty #[v, .slice none 0 0]).run P w = .ok v w := by
  rcases hown.2 with ⟨rfl, _⟩ | ⟨g, cap, cur, rfl, _, _, hc, _⟩
  · simp [Builtin.append_, run_underlying ht, sizeOf, typeInfo, hi, Builtin.lenOf, run_firstCells_none]
  · simp [Builtin.append_, run_underlying ht, sizeOf, typeInfo, hi, Builtin.lenOf, run_firstCells_none, hc, storeCells]
theorem wpList_append_rows {ops : Array Oper} {rest : List Oper} {o : Oper} {a : Act} {Q : Exit → Act → World → Prop} (hgd : o.guard = none) (s x : Operand) (t : TypeId)
    (ho : o.op = .call { callee := .builtin .append, args := #[s, x], argTypes := #[t, t] })
    (base : Nat) (e : TypeId) (i : TypeInfo) (z : Value) (size bytes : Nat) (ht : P.underlying t = some (.slice e)) (hi : P.info? e = some i) (hz : i.zero = some z)
    (hsize : i.size = size) (hby : i.bytes = bytes) (hzs : z.cells.size = size) (hsz : 0 < size)
    (v : Value) (n : Nat) (xs : List Value) (hs : a.eval s = v) (hown : w.ownsRow base e size v n xs)
    (u : Value) (m : Nat) (ys : List Value) (hx : a.eval x = u) (hu : w.ownsRow base e size u m ys) (h1 : ∀ y ∈ ys, y.oneCell' = true)
    (h63 : n + m ≤ maxLen) (hbytes : (n + m) * bytes ≤ 140737488355328) (hbase : base ≤ w.heap.size)
    (h : ∀ v' w', w'.ownsRow base e size v' (n + m) (xs ++ ys) → Below base w w' → wpList P ops Q rest (a.put o.dst v') w') :
    wpList P ops Q (o :: rest) a w := by
  have hu' := hu
  rcases hu.2 with ⟨rfl, rfl⟩ | ⟨g, cap, cur, rfl, _, _, hc, _⟩
  · have hr := run_append_none (P := P) (w := w) t o.type e i ht hi hown
    have hy : ys = [] := List.eq_nil_of_length_eq_zero (by rw [hu.1]; simp)
    subst hy
    refine wpList_plain hgd fun K hK => ?_
    unfold Oper.wp execOp
    simp only [ho, resolve, invoke, builtin, Sem.run_bind, Sem.run_pure, Result.andThen_ok, List.map_toArray, List.map_cons, List.map_nil, hs, hx, hr]
    exact hK _ _ (h v w (by simpa using hown) (Below.refl _ _))
  · refine wpList_append_own_at _ hgd s x t ho base e i z size bytes ht hi hz hsize hby hzs hsz v n xs hs hown ⟨g, 0, none⟩ m cap ys hx hu'.1 (World.ownsRow.cells hu' rfl) h1 h63 hbytes hbase ?_
    intro v' w' h2 h3 _ _
    exact h v' w' h2 ((Below.refl base w).grown h3 hbase (fun k hk => (World.ownsRow.lt hown k hk).1))
end

theorem pts_len (bs : List BlkV) : (ptsOf bs).length = bs.length := by simp [ptsOf]
theorem pts_at {bs : List BlkV} {k : Nat} (h : k < bs.length) : (ptsOf bs).getD k default = ((bs.getD k default).h, (bs.getD k default).ss) := by
  simp [ptsOf, List.getD_eq_getElem?_getD, List.getElem?_eq_getElem h]
/-- The places that PaidFind tells. -/
def findL (it : ByteArray) (ps : List (HeadV × List ByteArray)) : List HitV := if okP ps = true then fdT it ps ps.length else []
def FindPost (it : ByteArray) (ps : List (HeadV × List ByteArray)) (w : World) (e : Ending) (w' : World) : Prop := ∃ v, e = .returned v ∧ HtRow w.heap.size v (findL it ps) w' ∧ Below w.heap.size w w'
theorem find_no {it : ByteArray} {ps : List (HeadV × List ByteArray)} {w w' : World} {v : Value} (h : okP ps = false) (hr : HtRow w.heap.size v [] w') (hb : Below w.heap.size w w') : FindPost it ps w (.returned v) w' := ⟨v, rfl, by rw [findL, h]; exact hr, hb⟩
theorem find_yes {it : ByteArray} {ps : List (HeadV × List ByteArray)} {w w' : World} {v : Value} (h : okP ps = true) (hr : HtRow w.heap.size v (fdT it ps ps.length) w') (hb : Below w.heap.size w w') : FindPost it ps w (.returned v) w' := ⟨v, rfl, by rw [findL, if_pos h]; exact hr, hb⟩

set_option maxHeartbeats 4000000 in
set_option maxRecDepth 100000 in
theorem specPaidFind (g n cap : Nat) (bs : List BlkV) (it : ByteArray) (w : World) (hA : BlksS g n cap bs w) :
    Calls Tryz.prog 5 #[.slice (some ⟨g, 0, none⟩) n cap, .string it] w fun e w' => FindPost it (ptsOf bs) w e w' := by
  obtain ⟨i0, hi, hz0, hz1, hz2⟩ := info3 infoHit
  have HA : Hid (BlksS g n cap bs w) := hA
  have HN : Hid (n = bs.length) := hA.b.len
  have HM : Hid (n ≤ 1048576) := hA.b.max
  have hok := specL4Blocks g n cap bs _ (hA.below ((Below.refl _ w).alloc (Nat.le_refl _) (.cells #[] 48)))
  have R0 : Hid (HtRow w.heap.size (.slice (some ⟨w.heap.size, 0, none⟩) 0 0) [] (w.alloc (.cells #[] 48))) := (frow_new enHit 48 2 w).2
  have B0 : Hid (Below w.heap.size w (w.alloc (.cells #[] 48))) := (Below.refl _ w).alloc (Nat.le_refl _) _
  have HNO : Hid (∀ v w', okP (ptsOf bs) = false → HtRow w.heap.size v [] w' → Below w.heap.size w w' → FindPost it (ptsOf bs) w (.returned v) w') := fun v w' h1 h2 h3 => find_no h1 h2 h3
  have HYES : Hid (∀ v w', okP (ptsOf bs) = true → HtRow w.heap.size v (fdT it (ptsOf bs) n) w' → Below w.heap.size w w' → FindPost it (ptsOf bs) w (.returned v) w') := fun v w' h1 h2 h3 => find_yes h1 (by rw [pts_len, ← HN.out]; exact h2) h3
  have HLE : Hid (∀ k, k ≤ n → (fdT it (ptsOf bs) k).length ≤ 1048576 * k) := fun k hk => fdT_len (fun p hp => by
    obtain ⟨b, hb, rfl⟩ := List.mem_map.1 hp
    have := HA.out.few b hb
    rw [(HA.out.b.items b hb).2] at this
    exact this) k (by rw [pts_len, ← HN.out]; exact hk)
  have HST : Hid (∀ k, k < n → fdT it (ptsOf bs) (k + 1) = fdT it (ptsOf bs) k ++ bhT (k : Int) it (bs.getD k default).ss (bs.getD k default).n) := fun k hk => by
    rw [fdT, pts_at (by rw [← HN.out]; exact hk), (HA.out.b.items _ (blk_mem (by rw [← HN.out]; exact hk))).2]
  generalize FindPost it (ptsOf bs) w = Q at HNO HYES ⊢
  clear hA
  cases hokk : okP (ptsOf bs) with
  | false =>
    have HV : Hid (∀ v w', HtRow w.heap.size v [] w' → Below w.heap.size w w' → Q (.returned v) w') := fun v w' h2 h3 => HNO.out v w' hokk h2 h3
    rw [hokk] at hok
    clear HNO HYES HLE HST hokk
    go_enter Tryz.func5, Tryz.ntmps5
    go_wp2_with fail
    refine hok.mono ?_
    rintro e w1 ⟨rfl, b1⟩
    go_wp2_with fail
    exact HV.out _ _ (R0.out.below b1) (B0.out.trans (b1.mono B0.out.size))
  | true =>
  have HV : Hid (∀ v w', HtRow w.heap.size v (fdT it (ptsOf bs) n) w' → Below w.heap.size w w' → Q (.returned v) w') := fun v w' h2 h3 => HYES.out v w' hokk h2 h3
  rw [hokk] at hok
  clear HNO HYES hokk
  go_enter Tryz.func5, Tryz.ntmps5
  go_wp2_with fail
  refine hok.mono ?_
  rintro e w1 ⟨rfl, b1⟩
  have B1 : Hid (Below w.heap.size w w1) := B0.out.trans (b1.mono B0.out.size)
  have R1 : Hid (HtRow w.heap.size (.slice (some ⟨w.heap.size, 0, none⟩) 0 0) [] w1) := R0.out.below b1
  clear hok b1 R0 B0
  go_wp2_with fail
  go_loopw [5, 6] (fun v i wr => ∃ (k : Nat) (v5 : Value), k ≤ n ∧ i = .int .i64 (k : Int) ∧ v = v5 ∧ Hid (HtRow w.heap.size v5 (fdT it (ptsOf bs) k) wr) ∧ Hid (Below w.heap.size w wr)) (fun _ i _ => n - (intOf i).toNat)
  case atStart => exact ⟨0, _, by omega, rfl, rfl, R1, B1⟩
  case round =>
    clear R1 B1
    obtain ⟨k, v5, hk, rfl, hv5, HR, HB⟩ := hrel
    replace hv5 := hv5.symm
    subst hv5
    by_cases hlt : k < n
    · have hkl : k < bs.length := by rw [← HN.out]; exact hlt
      have HAr := HA.out.below HB.out
      have c0 := AtBlk.c0 HAr.b.at_ k hkl
      have c1 := AtBlk.c1 HAr.b.at_ k hkl
      have c2 := AtBlk.c2 HAr.b.at_ k hkl
      have c3 := AtBlk.c3 HAr.b.at_ k hkl
      have c4 := AtBlk.c4 HAr.b.at_ k hkl
      have c5 := AtBlk.c5 HAr.b.at_ k hkl
      have lk : (k : Int) < (n : Int) := by omega
      have lk0 : (0 : Int) ≤ (k : Int) := by omega
      have wk : IntKind.i64.wrap ((k : Int) + 1) = (k : Int) + 1 := by have := HM.out; rw [IntKind.wrap_i64]; omega
      have HK1 : Hid (k + 1 ≤ n) := hlt
      have HIT : Hid (ItemsAt wr (bs.getD k default)) := HAr.b.items _ (blk_mem hkl)
      have HFW : Hid ((bs.getD k default).n ≤ 1048576) := HA.out.few _ (blk_mem hkl)
      have HSM : Hid (∀ i, i < (bs.getD k default).ss.length → ((bs.getD k default).ss.getD i ByteArray.empty).size ≤ 1048576) := HA.out.small _ (blk_mem hkl)
      have HSK := HST.out k hlt
      have HLK : Hid ((fdT it (ptsOf bs) k).length ≤ 1048576 * k) := HLE.out k hk
      obtain ⟨L2, hL2⟩ : ∃ L2, L2 = fdT it (ptsOf bs) (k + 1) := ⟨_, rfl⟩
      have HE : Hid (L2 = fdT it (ptsOf bs) (k + 1)) := hL2
      rw [← hL2] at HSK
      have HSK : Hid _ := HSK
      clear hL2 hkl HAr
      have hbl := bhT_len (k : Int) it (bs.getD k default).ss (bs.getD k default).n
      have HBL : Hid ((bhT (k : Int) it (bs.getD k default).ss (bs.getD k default).n).length ≤ 1048576) := Nat.le_trans hbl HFW.out
      clear hbl
      generalize fdT it (ptsOf bs) k = L at HR HSK HLK
      generalize bs.getD k default = bb at c0 c1 c2 c3 c4 c5 HIT HFW HSM HSK HBL
      obtain ⟨p, bg, bn, bc, bss⟩ := bb
      dsimp only at c0 c1 c2 c3 c4 c5 HIT HFW HSM HSK HBL
      have L0 : Hid (Below wr.heap.size wr (wr.alloc (.cells #[.string it] 9))) := (Below.refl _ wr).alloc (Nat.le_refl _) _
      have HCW : Hid ((wr.alloc (.cells #[.string it] 9)).cell? ⟨wr.heap.size, 0, none⟩ = some (.string it)) := by show _ = _; rw [Lib.cell_of_heap (heap_alloc_new wr _)]; rfl
      have hcl := specL8Hits (k : Int) p bg bn bc bss wr.heap.size 1 it _ (HIT.out.1.below L0.out HIT.out.1.1) HIT.out.2 HFW.out (by simp) HCW.out
      have HLA : Hid (HtRow w.heap.size v5 L _) := HR.out.below L0.out
      generalize bhT (k : Int) it bss bn = M at hcl HSK HBL
      go_wp2_with fail
      refine hcl.mono ?_
      rintro e w3 ⟨v23, rfl, r3, b3⟩
      have B3 : Hid (Below w.heap.size w w3) := HB.out.trans ((L0.out.trans (b3.mono L0.out.size)).mono HB.out.size)
      have HOW : Hid (w3.ownsRow w.heap.size 48 2 v5 L.length (L.flatMap enHit)) := HLA.out.below b3
      have HOX : Hid (w3.ownsRow w.heap.size 48 2 v23 M.length (M.flatMap enHit)) := r3.mono (Nat.le_trans HB.out.size L0.out.size)
      have hx1 : L.length + M.length ≤ maxLen := by have := HLK.out; have := HBL.out; have := HM.out; unfold maxLen; omega
      have hx2 : (L.length + M.length) * 24 ≤ 140737488355328 := by have := HLK.out; have := HBL.out; have := HM.out; omega
      have hsz := B3.out.size
      clear HR HB b3 hcl r3 c0 c1 c2 c3 c4 c5 L0 HLA HIT HSM HCW
      go_wp2_with (at_builtin; refine wpList_append_rows rfl _ _ 24 rfl w.heap.size 48 i0 (.agg #[.int .i64 0, .string ⟨#[]⟩]) 2 24 Tryz.underlying24 hi hz0 hz1 hz2 rfl (by decide) v5 L.length (L.flatMap enHit) rfl HOW.out v23 M.length (M.flatMap enHit) rfl HOX.out (hEncs_one M) hx1 hx2 hsz ?_; intro v4 w4 hown4 hb4)
      have R4 : Hid (HtRow w.heap.size v4 L2 w4) := by
        have e1 : L2.length = L.length + M.length := by rw [HSK.out, List.length_append]
        show World.ownsRow _ _ _ _ _ _ _
        rw [e1, HSK.out, List.flatMap_append]
        exact hown4
      have B4 : Hid (Below w.heap.size w w4) := B3.out.trans hb4
      clear hown4 hb4 B3 HOW HOX hx1 hx2 hsz
      go_wp2_with fail
      go_roundw
      case rel => exact ⟨k + 1, _, HK1.out, by go_num, rfl, by rw [← HE.out]; exact R4, B4⟩
      case measure => have := HK1.out; simp [intOf]; omega
    · obtain rfl : k = n := by omega
      go_wp2_with fail
      exact HV.out _ _ HR.out HB.out

set_option maxHeartbeats 4000000 in
set_option maxRecDepth 100000 in
theorem implPaidFind (g n cap : Nat) (bs : List BlkV) (it : ByteArray) (w : World) (hA : BlksS g n cap bs w) (hK : RowG w shaK) (hP : TabP w) (hE : ErrT w) :
    Calls Tryz.prog 7 #[.slice (some ⟨g, 0, none⟩) n cap, .string it] w fun e w' => FindPost it (ptsOf bs) w e w' := by
  obtain ⟨i0, hi, hz0, hz1, hz2⟩ := info3 infoHit
  have HA : Hid (BlksS g n cap bs w) := hA
  have HN : Hid (n = bs.length) := hA.b.len
  have HM : Hid (n ≤ 1048576) := hA.b.max
  have hok := implChainOk g n cap bs w hA.b hK hP hE
  have HNO : Hid (∀ v w', okP (ptsOf bs) = false → HtRow w.heap.size v [] w' → Below w.heap.size w w' → FindPost it (ptsOf bs) w (.returned v) w') := fun v w' h1 h2 h3 => find_no h1 h2 h3
  have HYES : Hid (∀ v w', okP (ptsOf bs) = true → HtRow w.heap.size v (fdT it (ptsOf bs) n) w' → Below w.heap.size w w' → FindPost it (ptsOf bs) w (.returned v) w') := fun v w' h1 h2 h3 => find_yes h1 (by rw [pts_len, ← HN.out]; exact h2) h3
  have HLE : Hid (∀ k, k ≤ n → (fdT it (ptsOf bs) k).length ≤ 1048576 * k) := fun k hk => fdT_len (fun p hp => by
    obtain ⟨b, hb, rfl⟩ := List.mem_map.1 hp
    have := HA.out.few b hb
    rw [(HA.out.b.items b hb).2] at this
    exact this) k (by rw [pts_len, ← HN.out]; exact hk)
  have HST : Hid (∀ k, k < n → fdT it (ptsOf bs) (k + 1) = fdT it (ptsOf bs) k ++ bhT (k : Int) it (bs.getD k default).ss (bs.getD k default).n) := fun k hk => by
    rw [fdT, pts_at (by rw [← HN.out]; exact hk), (HA.out.b.items _ (blk_mem (by rw [← HN.out]; exact hk))).2]
  generalize FindPost it (ptsOf bs) w = Q at HNO HYES ⊢
  clear hA hK hP hE
  cases hokk : okP (ptsOf bs) with
  | false =>
    have HV : Hid (∀ v w', HtRow w.heap.size v [] w' → Below w.heap.size w w' → Q (.returned v) w') := fun v w' h2 h3 => HNO.out v w' hokk h2 h3
    rw [hokk] at hok
    clear HNO HYES HLE HST hokk
    go_enter Tryz.func7, Tryz.ntmps7
    go_wp2_with fail
    refine hok.mono ?_
    rintro e w1 ⟨rfl, b1⟩
    go_wp2_with fail
    exact HV.out _ _ (HtRow.nil _ _) b1
  | true =>
  have HV : Hid (∀ v w', HtRow w.heap.size v (fdT it (ptsOf bs) n) w' → Below w.heap.size w w' → Q (.returned v) w') := fun v w' h2 h3 => HYES.out v w' hokk h2 h3
  rw [hokk] at hok
  clear HNO HYES hokk
  go_enter Tryz.func7, Tryz.ntmps7
  go_wp2_with fail
  refine hok.mono ?_
  rintro e w1 ⟨rfl, b1⟩
  have B1 : Hid (Below w.heap.size w w1) := b1
  have R1 : Hid (HtRow w.heap.size (.slice none 0 0) [] w1) := HtRow.nil _ _
  clear hok b1
  go_wp2_with fail
  go_loopw [5, 13] (fun v i wr => ∃ (k : Nat) (v5 : Value), k ≤ n ∧ i = .int .i64 (k : Int) ∧ v = v5 ∧ Hid (HtRow w.heap.size v5 (fdT it (ptsOf bs) k) wr) ∧ Hid (Below w.heap.size w wr)) (fun _ i _ => n - (intOf i).toNat)
  case atStart => exact ⟨0, _, by omega, rfl, rfl, R1, B1⟩
  case round =>
    clear R1 B1
    obtain ⟨k, v5, hk, rfl, hv5, HR, HB⟩ := hrel
    replace hv5 := hv5.symm
    subst hv5
    by_cases hlt : k < n
    · have hkl : k < bs.length := by rw [← HN.out]; exact hlt
      have HAr := HA.out.below HB.out
      have c0 := AtBlk.c0 HAr.b.at_ k hkl
      have c1 := AtBlk.c1 HAr.b.at_ k hkl
      have c2 := AtBlk.c2 HAr.b.at_ k hkl
      have c3 := AtBlk.c3 HAr.b.at_ k hkl
      have c4 := AtBlk.c4 HAr.b.at_ k hkl
      have c5 := AtBlk.c5 HAr.b.at_ k hkl
      have lk : (k : Int) < (n : Int) := by omega
      have lk0 : (0 : Int) ≤ (k : Int) := by omega
      have wk : IntKind.i64.wrap ((k : Int) + 1) = (k : Int) + 1 := by have := HM.out; rw [IntKind.wrap_i64]; omega
      have HK1 : Hid (k + 1 ≤ n) := hlt
      have HIT : Hid (ItemsAt wr (bs.getD k default)) := HAr.b.items _ (blk_mem hkl)
      have HFW : Hid ((bs.getD k default).n ≤ 1048576) := HA.out.few _ (blk_mem hkl)
      have HSM : Hid (∀ i, i < (bs.getD k default).ss.length → ((bs.getD k default).ss.getD i ByteArray.empty).size ≤ 1048576) := HA.out.small _ (blk_mem hkl)
      have HSK := HST.out k hlt
      have HLK : Hid ((fdT it (ptsOf bs) k).length ≤ 1048576 * k) := HLE.out k hk
      obtain ⟨L2, hL2⟩ : ∃ L2, L2 = fdT it (ptsOf bs) (k + 1) := ⟨_, rfl⟩
      have HE : Hid (L2 = fdT it (ptsOf bs) (k + 1)) := hL2
      rw [← hL2] at HSK
      have HSK : Hid _ := HSK
      clear hL2 hkl HAr
      have hbl := bhT_len (k : Int) it (bs.getD k default).ss (bs.getD k default).n
      have HBL : Hid ((bhT (k : Int) it (bs.getD k default).ss (bs.getD k default).n).length ≤ 1048576) := Nat.le_trans hbl HFW.out
      clear hbl
      generalize fdT it (ptsOf bs) k = L at HR HSK HLK
      generalize bs.getD k default = bb at c0 c1 c2 c3 c4 c5 HIT HFW HSM HSK HBL
      obtain ⟨p, bg, bn, bc, bss⟩ := bb
      dsimp only at c0 c1 c2 c3 c4 c5 HIT HFW HSM HSK HBL
      have L0 : Hid (Below wr.heap.size wr ((wr.alloc (.cells #[.string p.prev, .string p.root, .int .i64 p.time, .int .i64 p.diff, .int .i64 p.nonce, .slice (some ⟨bg, 0, none⟩) bn bc] 43)).alloc (.cells #[.string it] 9))) := ((Below.refl _ wr).alloc (Nat.le_refl _) _).alloc (by simp) _
      have HCW : Hid (((wr.alloc (.cells #[.string p.prev, .string p.root, .int .i64 p.time, .int .i64 p.diff, .int .i64 p.nonce, .slice (some ⟨bg, 0, none⟩) bn bc] 43)).alloc (.cells #[.string it] 9)).cell? ⟨wr.heap.size + 1, 0, none⟩ = some (.string it)) := by
        have h9 := heap_alloc_new (wr.alloc (.cells #[.string p.prev, .string p.root, .int .i64 p.time, .int .i64 p.diff, .int .i64 p.nonce, .slice (some ⟨bg, 0, none⟩) bn bc] 43)) (.cells #[.string it] 9)
        rw [show (wr.alloc (.cells #[.string p.prev, .string p.root, .int .i64 p.time, .int .i64 p.diff, .int .i64 p.nonce, .slice (some ⟨bg, 0, none⟩) bn bc] 43)).heap.size = wr.heap.size + 1 from by simp] at h9
        show _ = _
        rw [Lib.cell_of_heap h9]
        rfl
      have hcl := implBlockHits (k : Int) p bg bn bc bss (wr.heap.size + 1) 1 it _ (HIT.out.1.below L0.out HIT.out.1.1) HIT.out.2 HFW.out (fun i hi => by have := HSM.out i hi; omega) (by simp) HCW.out
      have HLA : Hid (HtRow w.heap.size v5 L _) := HR.out.below L0.out
      generalize bhT (k : Int) it bss bn = M at hcl HSK HBL
      go_wp2_with fail
      refine hcl.mono ?_
      rintro e w3 ⟨v23, rfl, r3, b3⟩
      have B3 : Hid (Below w.heap.size w w3) := HB.out.trans ((L0.out.trans (b3.mono L0.out.size)).mono HB.out.size)
      have HOW : Hid (w3.ownsRow w.heap.size 48 2 v5 L.length (L.flatMap enHit)) := HLA.out.below b3
      have HOX : Hid (w3.ownsRow w.heap.size 48 2 v23 M.length (M.flatMap enHit)) := r3.mono (Nat.le_trans HB.out.size L0.out.size)
      have hx1 : L.length + M.length ≤ maxLen := by have := HLK.out; have := HBL.out; have := HM.out; unfold maxLen; omega
      have hx2 : (L.length + M.length) * 24 ≤ 140737488355328 := by have := HLK.out; have := HBL.out; have := HM.out; omega
      have hsz := B3.out.size
      clear HR HB b3 hcl r3 c0 c1 c2 c3 c4 c5 L0 HLA HIT HSM HCW
      go_wp2_with (at_builtin; refine wpList_append_rows rfl _ _ 24 rfl w.heap.size 48 i0 (.agg #[.int .i64 0, .string ⟨#[]⟩]) 2 24 Tryz.underlying24 hi hz0 hz1 hz2 rfl (by decide) v5 L.length (L.flatMap enHit) rfl HOW.out v23 M.length (M.flatMap enHit) rfl HOX.out (hEncs_one M) hx1 hx2 hsz ?_; intro v4 w4 hown4 hb4)
      have R4 : Hid (HtRow w.heap.size v4 L2 w4) := by
        have e1 : L2.length = L.length + M.length := by rw [HSK.out, List.length_append]
        show World.ownsRow _ _ _ _ _ _ _
        rw [e1, HSK.out, List.flatMap_append]
        exact hown4
      have B4 : Hid (Below w.heap.size w w4) := B3.out.trans hb4
      clear hown4 hb4 B3 HOW HOX hx1 hx2 hsz
      go_wp2_with fail
      go_roundw
      case rel => exact ⟨k + 1, _, HK1.out, by go_num, rfl, by rw [← HE.out]; exact R4, B4⟩
      case measure => have := HK1.out; simp [intOf]; omega
    · obtain rfl : k = n := by omega
      go_wp2_with fail
      exact HV.out _ _ HR.out HB.out

end Go.Proofs.YtgfjhjkgnghdhaaGreatDoor

set_option linter.unusedVariables false
namespace Go.Proofs.YtgfjhjkgnghdhaaGreatDoor
open Go.RowKit

end Go.Proofs.YtgfjhjkgnghdhaaGreatDoor

namespace Go.Proofs.YtgfjhjkgnghdhaaGreatDoor

end Go.Proofs.YtgfjhjkgnghdhaaGreatDoor

namespace Go.Proofs.YtgfjhjkgnghdhaaGreatDoor

end Go.Proofs.YtgfjhjkgnghdhaaGreatDoor

namespace Go.Proofs.YtgfjhjkgnghdhaaGreatDoor
open Go.RowKit

end Go.Proofs.YtgfjhjkgnghdhaaGreatDoor

namespace Go.Proofs.YtgfjhjkgnghdhaaGreatDoor
open Go.RowKit

/-- The numbers lie there. -/
def At (w : World) (g : Nat) (zs : List Int) : Prop := g < w.heap.size ∧ ∀ i, i < zs.length → w.cell? ⟨g, i, none⟩ = some (.int .i64 (zs.getD i 0))
theorem At.below {w w' : World} {g B : Nat} {zs : List Int} (h : At w g zs) (hb : Below B w w') (hg : g < B) : At w' g zs :=
  ⟨Nat.lt_of_lt_of_le h.1 hb.size, fun i hi => by rw [hb.cell (p := ⟨g, i, none⟩) hg]; exact h.2 i hi⟩
theorem At.drew {w : World} {g : Nat} {zs : List Int} (h : At w g zs) : At w.drew g zs := h
end Go.Proofs.YtgfjhjkgnghdhaaGreatDoor

set_option linter.unusedVariables false
namespace Go.Proofs.YtgfjhjkgnghdhaaGreatDoor
open Go.RowKit

end Go.Proofs.YtgfjhjkgnghdhaaGreatDoor

set_option linter.unusedVariables false
namespace Go.Proofs.YtgfjhjkgnghdhaaGreatDoor
open Go.Shelf Go.RowKit

/-- A row that the call has made stands if its block stands. -/
theorem ownsRow_keep {base : Nat} {e : TypeId} {v : Value} {n : Nat} {xs : List Value} {w w' : World} (h : w.ownsRow base e 1 v n xs) (hk : ∀ g, v.ownBlock = some g → w'.heap[g]? = w.heap[g]?) : w'.ownsRow base e 1 v n xs := by
  refine ⟨h.1, ?_⟩
  rcases h.2 with h2 | ⟨g, cap, cur, hv, h2⟩
  · exact .inl h2
  · refine .inr ⟨g, cap, cur, hv, h2.1, ?_, h2.2.2⟩
    rw [hk g (by rw [hv]; rfl)]
    exact h2.2.1
end Go.Proofs.YtgfjhjkgnghdhaaGreatDoor

set_option linter.unusedVariables false
namespace Go.Proofs.YtgfjhjkgnghdhaaGreatDoor
open Go.RowKit

/-- A row of integers of the call's own. -/
def ZRow (B : Nat) (v : Value) (zs : List Int) (w : World) : Prop := (∃ g cap, v = .slice (some ⟨g, 0, none⟩) zs.length cap) ∧ w.ownsRow B 3 1 v zs.length (zs.map (Value.int .i64))
theorem ZRow.block {B : Nat} {v : Value} {zs : List Int} {w : World} (h : ZRow B v zs w) : ∃ g cap cur, v = .slice (some ⟨g, 0, none⟩) zs.length cap ∧ B ≤ g ∧ g < w.heap.size ∧ w.heap[g]? = some (.cells cur 3 (0, 0)) ∧ cur.toList.take zs.length = zs.map (Value.int .i64) := by
  obtain ⟨⟨g, cap, rfl⟩, hl, h2⟩ := h
  rcases h2 with ⟨h2, _⟩ | ⟨g', cap', cur, hv, h3, h4, h5, h6, h7, h8⟩
  · cases h2
  · simp only [Value.slice.injEq, Option.some.injEq, Addr.mk.injEq, and_true] at hv
    obtain ⟨rfl, _, rfl⟩ := hv
    refine ⟨g, cap, cur, rfl, h3, ?_, h4, by simpa using h8⟩
    exact (Array.getElem?_eq_some_iff.1 h4).1
theorem ZRow.keep {B C : Nat} {v : Value} {zs : List Int} {w w' : World} (h : ZRow B v zs w) (hk : ∀ g, B ≤ g → g < w.heap.size → w'.heap[g]? = w.heap[g]?) : ZRow B v zs w' := by
  have hb := h.block
  refine ⟨h.1, ownsRow_keep h.2 (fun g hg => ?_)⟩
  obtain ⟨g', cap, cur, rfl, h1, h2, _⟩ := hb
  obtain rfl : g' = g := by simpa [Value.ownBlock] using hg
  exact hk g' h1 h2
theorem ZRow.at {B g n cap : Nat} {zs : List Int} {w : World} (h : ZRow B (.slice (some ⟨g, 0, none⟩) n cap) zs w) : At w g zs ∧ n = zs.length := by
  obtain ⟨g', cap', cur, hv, h1, h2, h3, h4⟩ := h.block
  simp only [Value.slice.injEq, Option.some.injEq, Addr.mk.injEq, and_true] at hv
  obtain ⟨rfl, rfl, rfl⟩ := hv
  refine ⟨⟨h2, fun i hi => ?_⟩, rfl⟩
  rw [Lib.cell_of_heap h3]
  have : cur.toList[i]? = (zs.map (Value.int .i64))[i]? := by rw [← h4, List.getElem?_take]; simp [hi]
  rw [← Array.getElem?_toList, this]
  simp [List.getElem?_eq_getElem hi]

end Go.Proofs.YtgfjhjkgnghdhaaGreatDoor

set_option linter.unusedVariables false
namespace Go.Proofs.YtgfjhjkgnghdhaaGreatDoor
open Go.RowKit

theorem At.far {w w' : World} {g : Nat} {zs : List Int} (h : At w g zs) (hk : w'.heap[g]? = w.heap[g]?) (hs : w.heap.size ≤ w'.heap.size) : At w' g zs :=
  ⟨Nat.lt_of_lt_of_le h.1 hs, fun i hi => (World.cell?_of_block (a := ⟨g, i, none⟩) hk).trans (h.2 i hi)⟩
theorem ZRow.of {B n g cap : Nat} {zs : List Int} {w : World} (h : w.ownsRow B 3 1 (.slice (some ⟨g, 0, none⟩) n cap) n (zs.map (Value.int .i64))) (hn : n = zs.length) : ZRow B (.slice (some ⟨g, 0, none⟩) n cap) zs w := by
  subst hn
  exact ⟨⟨g, cap, rfl⟩, h⟩

end Go.Proofs.YtgfjhjkgnghdhaaGreatDoor

set_option linter.unusedVariables false
namespace Go.Proofs.YtgfjhjkgnghdhaaGreatDoor
open Go.RowKit

theorem AtS.far {w w' : World} {g : Nat} {zs : List ByteArray} (h : AtS w g zs) (hk : w'.heap[g]? = w.heap[g]?) (hs : w.heap.size ≤ w'.heap.size) : AtS w' g zs :=
  ⟨Nat.lt_of_lt_of_le h.1 hs, fun i hi => (World.cell?_of_block (a := ⟨g, i, none⟩) hk).trans (h.2 i hi)⟩
theorem SRow.of {B n g cap : Nat} {zs : List ByteArray} {w : World} (h : w.ownsRow B 9 1 (.slice (some ⟨g, 0, none⟩) n cap) n (zs.map Value.string)) (hn : n = zs.length) : SRow B (.slice (some ⟨g, 0, none⟩) n cap) zs w := by
  subst hn
  exact ⟨⟨g, cap, rfl⟩, h⟩

end Go.Proofs.YtgfjhjkgnghdhaaGreatDoor

set_option linter.unusedVariables false
namespace Go.Proofs.YtgfjhjkgnghdhaaGreatDoor
open Go.RowKit

end Go.Proofs.YtgfjhjkgnghdhaaGreatDoor

set_option linter.unusedVariables false
namespace Go.Proofs.YtgfjhjkgnghdhaaGreatDoor
open Go.RowKit
end Go.Proofs.YtgfjhjkgnghdhaaGreatDoor

set_option linter.unusedVariables false
namespace Go.Proofs.YtgfjhjkgnghdhaaGreatDoor
open Go.RowKit

end Go.Proofs.YtgfjhjkgnghdhaaGreatDoor

set_option linter.unusedVariables false
namespace Go.Proofs.YtgfjhjkgnghdhaaGreatDoor
open Go.RowKit

end Go.Proofs.YtgfjhjkgnghdhaaGreatDoor

set_option linter.unusedVariables false
namespace Go.Proofs.YtgfjhjkgnghdhaaGreatDoor
open Go.RowKit

end Go.Proofs.YtgfjhjkgnghdhaaGreatDoor

set_option linter.unusedVariables false
namespace Go.Proofs.YtgfjhjkgnghdhaaGreatDoor
open Go.RowKit

end Go.Proofs.YtgfjhjkgnghdhaaGreatDoor

namespace Go.Proofs.YtgfjhjkgnghdhaaGreatDoor
open Go.RowKit

/-! ### The bits of a text -/
end Go.Proofs.YtgfjhjkgnghdhaaGreatDoor

set_option linter.unusedVariables false
namespace Go.Proofs.YtgfjhjkgnghdhaaGreatDoor
open Go.RowKit

end Go.Proofs.YtgfjhjkgnghdhaaGreatDoor

set_option linter.unusedVariables false
namespace Go.Proofs.YtgfjhjkgnghdhaaGreatDoor
open Go.RowKit

end Go.Proofs.YtgfjhjkgnghdhaaGreatDoor

set_option linter.unusedVariables false
namespace Go.Proofs.YtgfjhjkgnghdhaaGreatDoor
open Go.RowKit

/-- Of what lay there block b alone may have turned. -/
def But (b : Nat) (w w' : World) : Prop := w.heap.size ≤ w'.heap.size ∧ ∀ c, c < w.heap.size → c ≠ b → w'.heap[c]? = w.heap[c]?
theorem But.refl (b : Nat) (w : World) : But b w w := ⟨Nat.le_refl _, fun _ _ _ => rfl⟩
theorem But.trans {b : Nat} {u v w : World} (h : But b u v) (k : But b v w) : But b u w :=
  ⟨Nat.le_trans h.1 k.1, fun c hc hb => (k.2 c (Nat.lt_of_lt_of_le hc h.1) hb).trans (h.2 c hc hb)⟩
theorem Only.but {b : Nat} {w w' : World} (h : Only b w w') : But b w w' := ⟨by rw [h.size]; exact Nat.le_refl _, fun c _ hb => h.block c hb⟩
theorem Below.but {b : Nat} {w w' : World} (h : Below w.heap.size w w') : But b w w' := ⟨h.size, fun c hc _ => h.block c hc⟩
theorem But.alloc (b : Nat) (w : World) (o : Obj) : But b w (w.alloc o) := ⟨by simp, fun c hc _ => Below.heap_alloc _ _ _ hc⟩
theorem SRow.but {B b : Nat} {v : Value} {ss : List ByteArray} {w w' : World} (h : SRow B v ss w) (hk : But b w w') (hb : b < B) : SRow B v ss w' := h.keep (fun g hg hl => hk.2 g hl (by omega))

end Go.Proofs.YtgfjhjkgnghdhaaGreatDoor

set_option linter.unusedVariables false
namespace Go.Proofs.YtgfjhjkgnghdhaaGreatDoor
open Go.RowKit Go.Deep

/-- A block of texts that may be written. -/
def SBk (w : World) (g n : Nat) : Prop := ∃ cur : Array Value, w.heap[g]? = some (.cells cur 9 (0, 0)) ∧ n ≤ cur.size ∧ ∀ i, i < n → ∃ s, cur[i]? = some (.string s)
theorem SBk.lt {w : World} {g n : Nat} (h : SBk w g n) : g < w.heap.size := by
  obtain ⟨cur, h1, _⟩ := h
  rcases Nat.lt_or_ge g w.heap.size with h' | h'
  · exact h'
  · simp [Array.getElem?_eq_none h'] at h1
theorem SBk.keep {w w' : World} {g n : Nat} (h : SBk w g n) (hk : w'.heap[g]? = w.heap[g]?) : SBk w' g n := by
  obtain ⟨cur, h1, h2⟩ := h
  exact ⟨cur, hk.trans h1, h2⟩
theorem SBk.below {w w' : World} {g n B : Nat} (h : SBk w g n) (hb : Below B w w') (hg : g < B) : SBk w' g n := h.keep (hb.block g hg)
theorem SBk.cell {w : World} {g n : Nat} (h : SBk w g n) (i : Nat) (hi : i < n) : (∃ s, w.cell? ⟨g, i, none⟩ = some (.string s)) ∧ w.frozen? ⟨g, i, none⟩ = false := by
  obtain ⟨cur, h1, h2, h3⟩ := h
  exact ⟨by rw [Lib.cell_of_heap h1]; exact h3 i hi, Lib.frozen_of_heap h1 i⟩
theorem SBk.set {w : World} {g n : Nat} (h : SBk w g n) (i : Nat) (s : ByteArray) : SBk (w.setCell ⟨g, i, none⟩ (.string s)) g n := by
  obtain ⟨cur, h1, h2, h3⟩ := h
  refine ⟨cur.setIfInBounds i (.string s), ?_, by simpa using h2, fun j hj => ?_⟩
  · simp [World.setCell, Array.getElem?_modify, h1]
  · rw [Array.getElem?_setIfInBounds]
    split
    · split
      · exact ⟨s, rfl⟩
      · omega
    · exact h3 j hj
theorem SBk.of {w : World} {g : Nat} {l : List ByteArray} (h : RowS w g l) : SBk w g l.length :=
  ⟨_, h, by simp [sCells], fun i hi => ⟨l[i], by simp [sCells, hi]⟩⟩
theorem cell_set_other {w : World} {g i j : Nat} {v : Value} (h : i ≠ j) : (w.setCell ⟨g, i, none⟩ v).cell? ⟨g, j, none⟩ = w.cell? ⟨g, j, none⟩ := by
  simp [World.setCell, World.cell?, Array.getElem?_modify]
  cases hh : w.heap[g]? with
  | none => simp
  | some o => cases o <;> simp [h]

/-- What writing marks into a list of texts leaves. -/
def MSPost (g n k : Nat) (w : World) (e : Ending) (w' : World) : Prop := e = .returned (.int .i64 ((k + n : Nat) : Int)) ∧ SBk w' g n ∧ (∀ i, i < n → w'.cell? ⟨g, i, none⟩ = some (.string (mkS (k + i)))) ∧ But g w w' ∧ (∀ m, SBk w g m → SBk w' g m) ∧ Below 0 w w'
set_option maxHeartbeats 1000000 in
set_option maxRecDepth 100000 in
theorem markStrs (g n cap k : Nat) (w : World) (h : SBk w g n) (hn : n ≤ 1000000000000) (hk : k ≤ 100000000000000000) :
    Calls Tryz.prog 22 #[.slice (some ⟨g, 0, none⟩) n cap, .int .i64 (k : Int)] w fun e w' => MSPost g n k w e w' := by
  have H0 : Hid (SBk w g n) := h
  clear h
  have HQ : Hid (∀ e w', e = .returned (.int .i64 ((k + n : Nat) : Int)) → SBk w' g n → (∀ i, i < n → w'.cell? ⟨g, i, none⟩ = some (.string (mkS (k + i)))) → But g w w' → (∀ m, SBk w g m → SBk w' g m) → Below 0 w w' → MSPost g n k w e w') := fun e w' h1 h2 h3 h4 h5 h6 => ⟨h1, h2, h3, h4, h5, h6⟩
  generalize MSPost g n k w = Q at HQ ⊢
  go_enter Tryz.func22, Tryz.ntmps22
  go_wp2_with fail
  go_loopw [1, 5] (fun m i wr => ∃ j : Nat, j ≤ n ∧ i = .int .i64 (j : Int) ∧ m = .int .i64 ((k + j : Nat) : Int) ∧ Hid (SBk wr g n ∧ (∀ i, i < j → wr.cell? ⟨g, i, none⟩ = some (.string (mkS (k + i)))) ∧ But g w wr ∧ (∀ m, SBk w g m → SBk wr g m) ∧ Below 0 w wr)) (fun _ i _ => n - (intOf i).toNat)
  case atStart => exact ⟨0, by omega, rfl, rfl, H0.out, fun i hi => by omega, But.refl _ _, fun m h => h, Below.refl _ _⟩
  case round =>
    clear H0
    obtain ⟨j, hj, rfl, rfl, HS⟩ := hrel
    by_cases hlt : j < n
    · have hmk := markText (k + j) (by omega) wr
      have lj : (j : Int) < (n : Int) := by omega
      have lj0 : (0 : Int) ≤ (j : Int) := by omega
      have HK1 : Hid (j + 1 ≤ n) := hlt
      have hgl := HS.out.1.lt
      obtain ⟨m, hm⟩ : ∃ m, m = k + j := ⟨_, rfl⟩
      have HM : Hid (m = k + j) := hm
      have HM1 : Hid (((m : Int) + 1) = ((k + (j + 1) : Nat) : Int)) := by show _ = _; omega
      rw [← hm] at hmk ⊢
      have wk : IntKind.i64.wrap ((m : Int) + 1) = (m : Int) + 1 := by rw [IntKind.wrap_i64]; omega
      have wj : IntKind.i64.wrap ((j : Int) + 1) = (j : Int) + 1 := by rw [IntKind.wrap_i64]; omega
      clear hm
      go_wp2_with fail
      refine hmk.mono ?_
      rintro e w1 ⟨rfl, b1⟩
      have HS1 : Hid (SBk w1 g n) := HS.out.1.below b1 hgl
      obtain ⟨⟨so, q0⟩, z0⟩ := HS1.out.cell j hlt
      have HC1 : Hid (∀ i, i < j → w1.cell? ⟨g, i, none⟩ = some (.string (mkS (k + i)))) := fun i hi => (b1.cell (p := ⟨g, i, none⟩) hgl).trans (HS.out.2.1 i hi)
      have HU1 : Hid (But g w w1) := HS.out.2.2.1.trans (Below.but b1)
      have HW1 : Hid (∀ m, SBk w g m → SBk w1 g m) := fun m h => (HS.out.2.2.2.1 m h).below b1 hgl
      have HX1 : Hid (Below 0 w w1) := HS.out.2.2.2.2.trans (b1.mono (Nat.zero_le _))
      have HN : Hid (SBk (w1.setCell ⟨g, j, none⟩ (.string (mkS m))) g n ∧ (∀ i, i < j + 1 → (w1.setCell ⟨g, j, none⟩ (.string (mkS m))).cell? ⟨g, i, none⟩ = some (.string (mkS (k + i)))) ∧ But g w (w1.setCell ⟨g, j, none⟩ (.string (mkS m))) ∧ (∀ q, SBk w g q → SBk (w1.setCell ⟨g, j, none⟩ (.string (mkS m))) g q) ∧ Below 0 w (w1.setCell ⟨g, j, none⟩ (.string (mkS m)))) := by
        refine ⟨HS1.out.set j _, fun i hi => ?_, ?_, fun q hq => (HW1.out q hq).set j _, HX1.out.setCell (p := ⟨g, j, none⟩) (Nat.zero_le _) _⟩
        · rcases Nat.lt_or_ge i j with h' | h'
          · rw [cell_set_other (by omega)]
            exact HC1.out i h'
          · obtain rfl : i = j := by omega
            obtain ⟨cur, h1, h2, _⟩ := HS1.out
            have : (w1.setCell ⟨g, i, none⟩ (.string (mkS m))).heap[g]? = some (.cells (cur.setIfInBounds i (.string (mkS m))) 9 (0, 0)) := by simp [World.setCell, Array.getElem?_modify, h1]
            rw [Lib.cell_of_heap this, HM.out]
            simp [show i < cur.size by omega]
        · refine ⟨Nat.le_trans HU1.out.1 ((Below.refl 0 w1).setCell (p := ⟨g, j, none⟩) (Nat.zero_le _) _).size, fun c hc hne => ?_⟩
          rw [← HU1.out.2 c hc hne]
          simp [World.setCell, Array.getElem?_modify, Ne.symm hne]
      clear hmk HS HS1 HC1 HU1 HW1 HX1 b1
      generalize mkS m = ms at HN ⊢
      go_wp2_with fail
      go_roundw
      case rel => exact ⟨j + 1, HK1.out, by go_num, by show Value.int .i64 _ = Value.int .i64 _; rw [HM1.out], HN⟩
      case measure => have := HK1.out; simp [intOf]; omega
    · obtain rfl : j = n := by omega
      go_wp2_with fail
      exact HQ.out _ _ rfl HS.out.1 HS.out.2.1 HS.out.2.2.1 HS.out.2.2.2.1 HS.out.2.2.2.2

end Go.Proofs.YtgfjhjkgnghdhaaGreatDoor

set_option linter.unusedVariables false
namespace Go.Proofs.YtgfjhjkgnghdhaaGreatDoor
open Go.RowKit Go.Deep

theorem flat_setV {α : Type} [Inhabited α] (k : Nat) (enc : α → List Value) (hk : ∀ a, (enc a).length = k) : ∀ (l : List α) (i j : Nat) (v : Value) (a : α), i < l.length → j < k → enc a = (enc (l.getD i default)).set j v → (l.flatMap enc).set (i * k + j) v = (l.set i a).flatMap enc
  | [], i, j, v, a, hi, _, _ => by cases hi
  | x :: r, 0, j, v, a, _, hj, he => by
    have he' : enc a = (enc x).set j v := he
    rw [List.flatMap_cons, Nat.zero_mul, Nat.zero_add, List.set_append_left _ _ (by rw [hk]; exact hj), List.set_cons_zero, List.flatMap_cons, he']
  | x :: r, i + 1, j, v, a, hi, hj, he => by
    have e : (i + 1) * k + j = k + (i * k + j) := by rw [Nat.add_mul]; omega
    rw [List.flatMap_cons, List.set_append_right _ _ (by rw [hk, e]; omega), hk, e, Nat.add_sub_cancel_left, flat_setV k enc hk r i j v a (by simpa using hi) hj (by simpa using he), List.set_cons_succ, List.flatMap_cons]
abbrev RowB (w : World) (g : Nat) (l : List BlkV) : Prop := RowF enBlk 43 w g l
theorem RowB.set {w : World} {g : Nat} {l : List BlkV} (h : RowB w g l) (i j : Nat) (v : Value) (b : BlkV) (hi : i < l.length) (hj : j < 6) (he : enBlk b = (enBlk (l.getD i default)).set j v) : RowB (w.setCell ⟨g, i * 6 + j, none⟩ v) g (l.set i b) := by
  unfold RowB RowF at h ⊢
  rw [← flat_setV 6 enBlk enBlk_len l i j v b hi hj he]
  simp [World.setCell, Array.getElem?_modify, h]
def shB (c : BlkV) : Nat × Nat × Nat := (c.g, c.n, c.cap)
theorem sh_set {l : List BlkV} {i : Nat} {b : BlkV} (hi : i < l.length) (h : shB b = shB (l.getD i default)) : (l.set i b).map shB = l.map shB := by
  rw [List.map_set, h]
  rw [List.getD_eq_getElem?_getD, List.getElem?_eq_getElem hi]
  apply List.ext_getElem?
  intro n
  rw [List.getElem?_set]
  split
  · rename_i hin
    subst hin
    simp [hi]
  · rfl
theorem sh_at {l bs : List BlkV} (h : l.map shB = bs.map shB) {i : Nat} (hi : i < bs.length) : shB (l.getD i default) = shB (bs.getD i default) := by
  have hl : i < l.length := by
    have := congrArg List.length h
    rw [List.length_map, List.length_map] at this
    omega
  have e := congrArg (fun q => q[i]?) h
  simp only [List.getElem?_map, List.getElem?_eq_getElem hl, List.getElem?_eq_getElem hi, Option.map_some, Option.some.injEq] at e
  rw [List.getD_eq_getElem?_getD, List.getElem?_eq_getElem hl, List.getD_eq_getElem?_getD, List.getElem?_eq_getElem hi]
  exact e
/-- A list of blocks that may be written, and all else that stands. -/
structure MkB (w0 : World) (g : Nat) (bs cs : List BlkV) (w : World) : Prop where
  row : RowB w g cs
  sh : cs.map shB = bs.map shB
  its : ∀ c ∈ bs, SBk w c.g c.n ∧ c.g ≠ g
  size : w0.heap.size ≤ w.heap.size
  far : ∀ b, b < w0.heap.size → b ≠ g → (∀ c ∈ bs, b ≠ c.g) → w.heap[b]? = w0.heap[b]?
  fr : Below 0 w0 w
theorem MkB.call {w0 w w' : World} {g : Nat} {bs cs : List BlkV} (h : MkB w0 g bs cs w) (hb : Below w.heap.size w w') : MkB w0 g bs cs w' :=
  ⟨h.row.below hb h.row.lt, h.sh, fun c hc => ⟨(h.its c hc).1.below hb (h.its c hc).1.lt, (h.its c hc).2⟩, Nat.le_trans h.size hb.size, fun b h1 h2 h3 => (hb.block b (Nat.lt_of_lt_of_le h1 h.size)).trans (h.far b h1 h2 h3), h.fr.trans (hb.mono (Nat.zero_le _))⟩
theorem MkB.put {w0 w : World} {g : Nat} {bs cs : List BlkV} (h : MkB w0 g bs cs w) (i j : Nat) (v : Value) (b : BlkV) (hi : i < cs.length) (hj : j < 6) (he : enBlk b = (enBlk (cs.getD i default)).set j v) (hs : shB b = shB (cs.getD i default)) : MkB w0 g bs (cs.set i b) (w.setCell ⟨g, i * 6 + j, none⟩ v) := by
  have hsz : (w.setCell ⟨g, i * 6 + j, none⟩ v).heap.size = w.heap.size := by simp [World.setCell]
  refine ⟨h.row.set i j v b hi hj he, (sh_set hi hs).trans h.sh, fun c hc => ⟨(h.its c hc).1.keep ?_, (h.its c hc).2⟩, by rw [hsz]; exact h.size, fun c h1 h2 h3 => ?_, h.fr.setCell (p := ⟨g, i * 6 + j, none⟩) (Nat.zero_le _) _⟩
  · simp [World.setCell, Array.getElem?_modify, Ne.symm (h.its c hc).2]
  · rw [← h.far c h1 h2 h3]
    simp [World.setCell, Array.getElem?_modify, Ne.symm h2]
theorem MkB.items {w0 w w' : World} {g x n k : Nat} {bs cs : List BlkV} {e : Ending} (h : MkB w0 g bs cs w) (hp : MSPost x n k w e w') (hx : ∃ c ∈ bs, c.g = x) (hg : x ≠ g) : MkB w0 g bs cs w' := by
  obtain ⟨_, hs, _, hu, hw, hfr⟩ := hp
  obtain ⟨c0, hc0, hcx⟩ := hx
  refine ⟨?_, h.sh, fun c hc => ⟨?_, (h.its c hc).2⟩, Nat.le_trans h.size hu.1, fun b h1 h2 h3 => (hu.2 b (Nat.lt_of_lt_of_le h1 h.size) (by rw [← hcx]; exact h3 c0 hc0)).trans (h.far b h1 h2 h3), h.fr.trans hfr⟩
  · have := h.row
    unfold RowB RowF at this ⊢
    rw [hu.2 g h.row.lt (Ne.symm hg)]
    exact this
  · by_cases he : c.g = x
    · have := (h.its c hc).1
      rw [he] at this ⊢
      exact hw _ this
    · exact (h.its c hc).1.keep (hu.2 c.g (h.its c hc).1.lt he)
def MkPost (w : World) (g : Nat) (bs : List BlkV) (e : Ending) (w' : World) : Prop := ∃ (k : Nat) (cs : List BlkV), e = .returned (.int .i64 (k : Int)) ∧ MkB w g bs cs w'
theorem MkB.len {w0 w : World} {g : Nat} {bs cs : List BlkV} (h : MkB w0 g bs cs w) : cs.length = bs.length := by
  have := congrArg List.length h.sh
  rwa [List.length_map, List.length_map] at this
theorem set_self {l : List BlkV} {i : Nat} (hi : i < l.length) (b : BlkV) : (l.set i b).getD i default = b := by simp [hi]

set_option maxHeartbeats 4000000 in
set_option maxRecDepth 100000 in
theorem markBlks (g n cap : Nat) (bs : List BlkV) (w : World) (h : MkB w g bs bs w) (hn : n = bs.length) (hm : n ≤ 1048576) (hf : ∀ c ∈ bs, c.n ≤ 1048576) :
    Calls Tryz.prog 10 #[.slice (some ⟨g, 0, none⟩) n cap, .int .i64 1] w fun e w' => MkPost w g bs e w' := by
  have H0 : Hid (MkB w g bs bs w) := h
  have HN : Hid (n = bs.length) := hn
  have HF : Hid (∀ c ∈ bs, c.n ≤ 1048576) := hf
  have HQ : Hid (∀ e w' (k : Nat) cs, e = .returned (.int .i64 (k : Int)) → MkB w g bs cs w' → MkPost w g bs e w') := fun e w' k cs h1 h2 => ⟨k, cs, h1, h2⟩
  generalize MkPost w g bs = Q at HQ ⊢
  clear h hn hf
  go_enter Tryz.func10, Tryz.ntmps10
  go_wp2_with fail
  go_loopw [1, 5] (fun m i wr => ∃ (j k : Nat) (cs : List BlkV), j ≤ n ∧ i = .int .i64 (j : Int) ∧ m = .int .i64 (k : Int) ∧ k ≤ 1 + j * 1048581 ∧ Hid (MkB w g bs cs wr)) (fun _ i _ => n - (intOf i).toNat)
  case atStart => exact ⟨0, 1, bs, by omega, rfl, rfl, by omega, H0⟩
  case round =>
    clear H0
    obtain ⟨j, m, cs, hj, rfl, rfl, hk, HM⟩ := hrel
    by_cases hlt : j < n
    · have HJL : Hid (j < cs.length) := by show _ < _; rw [HM.out.len, ← HN.out]; exact hlt
      have hjb : j < bs.length := by rw [← HN.out]; exact hlt
      have hshj := sh_at HM.out.sh hjb
      have hmem : bs.getD j default ∈ bs := by rw [List.getD_eq_getElem?_getD, List.getElem?_eq_getElem hjb]; exact List.getElem_mem hjb
      have HIT : Hid (∀ c0 : BlkV, shB c0 = shB (cs.getD j default) → (∃ c ∈ bs, c.g = c0.g) ∧ c0.g ≠ g ∧ c0.n ≤ 1048576 ∧ ∀ w' ds, MkB w g bs ds w' → SBk w' c0.g c0.n) := by
        intro c0 hc0
        have e := hc0.trans hshj
        simp only [shB, Prod.mk.injEq] at e
        refine ⟨⟨_, hmem, e.1.symm⟩, ?_, ?_, fun w' ds hd => ?_⟩
        · rw [e.1]; exact (HM.out.its _ hmem).2
        · rw [e.2.1]; exact HF.out _ hmem
        · rw [e.1, e.2.1]; exact (hd.its _ hmem).1
      have hmk0 := fun w' => markText m (by omega) w'
      have hmk1 := fun w' => markText (m + 1) (by omega) w'
      have lj : (j : Int) < (n : Int) := by omega
      have lj0 : (0 : Int) ≤ (j : Int) := by omega
      have wj : IntKind.i64.wrap ((j : Int) + 1) = (j : Int) + 1 := by rw [IntKind.wrap_i64]; omega
      have HK1 : Hid (j + 1 ≤ n) := hlt
      have HKB : Hid (m + 5 ≤ 1 + j * 1048581 + 5) := by show _ ≤ _; omega
      obtain ⟨m1, hm1⟩ : ∃ m1, m1 = m + 1 := ⟨_, rfl⟩
      obtain ⟨m2, hm2⟩ : ∃ m2, m2 = m + 2 := ⟨_, rfl⟩
      obtain ⟨m3, hm3⟩ : ∃ m3, m3 = m + 3 := ⟨_, rfl⟩
      obtain ⟨m4, hm4⟩ : ∃ m4, m4 = m + 4 := ⟨_, rfl⟩
      obtain ⟨m5, hm5⟩ : ∃ m5, m5 = m + 5 := ⟨_, rfl⟩
      rw [← hm1] at hmk1
      rw [← hm5] at HKB
      have v1 : IntKind.i64.wrap ((m : Int) + 1) = (m1 : Int) := by rw [IntKind.wrap_i64]; omega
      have v2 : IntKind.i64.wrap ((m1 : Int) + 1) = (m2 : Int) := by rw [IntKind.wrap_i64]; omega
      have v3 : IntKind.i64.wrap ((m2 : Int) + 1) = (m3 : Int) := by rw [IntKind.wrap_i64]; omega
      have v4 : IntKind.i64.wrap ((m3 : Int) + 1) = (m4 : Int) := by rw [IntKind.wrap_i64]; omega
      have v5 : IntKind.i64.wrap ((m4 : Int) + 1) = (m5 : Int) := by rw [IntKind.wrap_i64]; omega
      have hm5l : m5 ≤ 100000000000000000 := by omega
      clear hm1 hm2 hm3 hm4 hm5 hshj hmem hjb
      generalize mkS m = s0 at hmk0
      generalize mkS m1 = s1 at hmk1
      go_wp2_with fail
      refine (hmk0 _).mono ?_
      rintro e w1 ⟨rfl, b1⟩
      have HM1 : Hid (MkB w g bs cs w1) := HM.out.call b1
      have d0 := AtBlk.c0 (HM1.out.row.at 6 enBlk_len) j HJL.out
      have d1 := AtBlk.c1 (HM1.out.row.at 6 enBlk_len) j HJL.out
      have d2 := AtBlk.c2 (HM1.out.row.at 6 enBlk_len) j HJL.out
      have d3 := AtBlk.c3 (HM1.out.row.at 6 enBlk_len) j HJL.out
      have d4 := AtBlk.c4 (HM1.out.row.at 6 enBlk_len) j HJL.out
      have d5 := AtBlk.c5 (HM1.out.row.at 6 enBlk_len) j HJL.out
      have f0 := HM1.out.row.frozen (j * 6)
      have f1 := HM1.out.row.frozen (j * 6 + 1)
      have f2 := HM1.out.row.frozen (j * 6 + 2)
      have f3 := HM1.out.row.frozen (j * 6 + 3)
      have f4 := HM1.out.row.frozen (j * 6 + 4)
      have f5 := HM1.out.row.frozen (j * 6 + 5)
      generalize hco : cs.getD j default = co at d0 d1 d2 d3 d4 d5
      have HCO : Hid (cs.getD j default = co) := hco
      clear hco
      obtain ⟨⟨op, orr, ot, od, on⟩, og, oN, oc, os⟩ := co
      dsimp only at d0 d1 d2 d3 d4 d5
      have HM2 : Hid (MkB w g bs (cs.set j ⟨⟨s0, orr, ot, od, on⟩, og, oN, oc, os⟩) (w1.setCell ⟨g, j * 6, none⟩ (.string s0))) := HM1.out.put j 0 _ _ HJL.out (by decide) (by rw [HCO.out]; rfl) (by rw [HCO.out]; rfl)
      have HJ2 : Hid (j < (cs.set j ⟨⟨s0, orr, ot, od, on⟩, og, oN, oc, os⟩).length) := by show _ < _; rw [List.length_set]; exact HJL.out
      have HG2 : Hid ((cs.set j ⟨⟨s0, orr, ot, od, on⟩, og, oN, oc, os⟩).getD j default = ⟨⟨s0, orr, ot, od, on⟩, og, oN, oc, os⟩) := set_self HJL.out _
      have HIT2 := HIT.out ⟨⟨op, orr, ot, od, on⟩, og, oN, oc, os⟩ (by rw [HCO.out])
      clear HM HM1 b1 hmk0 HIT HCO
      go_wp2_with fail
      clear d0 d1 d2 d3 d4 d5 f0 f1 f2 f3 f4 f5
      generalize cs.set j ⟨⟨s0, orr, ot, od, on⟩, og, oN, oc, os⟩ = cs2 at HM2 HJ2 HG2
      refine (hmk1 _).mono ?_
      rintro e w2 ⟨rfl, b2⟩
      have HM3 : Hid (MkB w g bs cs2 w2) := HM2.out.call b2
      have d0 := AtBlk.c0 (HM3.out.row.at 6 enBlk_len) j HJ2.out
      have d1 := AtBlk.c1 (HM3.out.row.at 6 enBlk_len) j HJ2.out
      have d2 := AtBlk.c2 (HM3.out.row.at 6 enBlk_len) j HJ2.out
      have d3 := AtBlk.c3 (HM3.out.row.at 6 enBlk_len) j HJ2.out
      have d4 := AtBlk.c4 (HM3.out.row.at 6 enBlk_len) j HJ2.out
      have d5 := AtBlk.c5 (HM3.out.row.at 6 enBlk_len) j HJ2.out
      have f0 := HM3.out.row.frozen (j * 6)
      have f1 := HM3.out.row.frozen (j * 6 + 1)
      have f2 := HM3.out.row.frozen (j * 6 + 2)
      have f3 := HM3.out.row.frozen (j * 6 + 3)
      have f4 := HM3.out.row.frozen (j * 6 + 4)
      have f5 := HM3.out.row.frozen (j * 6 + 5)
      rw [HG2.out] at d0 d1 d2 d3 d4 d5
      dsimp only at d0 d1 d2 d3 d4 d5
      have P1 : Hid (MkB w g bs (cs2.set j ⟨⟨s0, s1, ot, od, on⟩, og, oN, oc, os⟩) (w2.setCell ⟨g, j * 6 + 1, none⟩ (.string s1))) := HM3.out.put j 1 _ _ HJ2.out (by decide) (by rw [HG2.out]; rfl) (by rw [HG2.out]; rfl)
      have N1 : Hid (j < (cs2.set j ⟨⟨s0, s1, ot, od, on⟩, og, oN, oc, os⟩).length ∧ (cs2.set j ⟨⟨s0, s1, ot, od, on⟩, og, oN, oc, os⟩).getD j default = ⟨⟨s0, s1, ot, od, on⟩, og, oN, oc, os⟩) := ⟨by rw [List.length_set]; exact HJ2.out, set_self HJ2.out _⟩
      generalize cs2.set j ⟨⟨s0, s1, ot, od, on⟩, og, oN, oc, os⟩ = x1 at P1 N1
      have P2 : Hid (MkB w g bs (x1.set j ⟨⟨s0, s1, (m2 : Int), od, on⟩, og, oN, oc, os⟩) ((w2.setCell ⟨g, j * 6 + 1, none⟩ (.string s1)).setCell ⟨g, j * 6 + 2, none⟩ (.int .i64 (m2 : Int)))) := P1.out.put j 2 _ _ N1.out.1 (by decide) (by rw [N1.out.2]; rfl) (by rw [N1.out.2]; rfl)
      have N2 : Hid (j < (x1.set j ⟨⟨s0, s1, (m2 : Int), od, on⟩, og, oN, oc, os⟩).length ∧ (x1.set j ⟨⟨s0, s1, (m2 : Int), od, on⟩, og, oN, oc, os⟩).getD j default = ⟨⟨s0, s1, (m2 : Int), od, on⟩, og, oN, oc, os⟩) := ⟨by rw [List.length_set]; exact N1.out.1, set_self N1.out.1 _⟩
      generalize x1.set j ⟨⟨s0, s1, (m2 : Int), od, on⟩, og, oN, oc, os⟩ = x2 at P2 N2
      have P3 : Hid (MkB w g bs (x2.set j ⟨⟨s0, s1, (m2 : Int), (m3 : Int), on⟩, og, oN, oc, os⟩) (((w2.setCell ⟨g, j * 6 + 1, none⟩ (.string s1)).setCell ⟨g, j * 6 + 2, none⟩ (.int .i64 (m2 : Int))).setCell ⟨g, j * 6 + 3, none⟩ (.int .i64 (m3 : Int)))) := P2.out.put j 3 _ _ N2.out.1 (by decide) (by rw [N2.out.2]; rfl) (by rw [N2.out.2]; rfl)
      have N3 : Hid (j < (x2.set j ⟨⟨s0, s1, (m2 : Int), (m3 : Int), on⟩, og, oN, oc, os⟩).length ∧ (x2.set j ⟨⟨s0, s1, (m2 : Int), (m3 : Int), on⟩, og, oN, oc, os⟩).getD j default = ⟨⟨s0, s1, (m2 : Int), (m3 : Int), on⟩, og, oN, oc, os⟩) := ⟨by rw [List.length_set]; exact N2.out.1, set_self N2.out.1 _⟩
      generalize x2.set j ⟨⟨s0, s1, (m2 : Int), (m3 : Int), on⟩, og, oN, oc, os⟩ = x3 at P3 N3
      have P4 : Hid (MkB w g bs (x3.set j ⟨⟨s0, s1, (m2 : Int), (m3 : Int), (m4 : Int)⟩, og, oN, oc, os⟩) ((((w2.setCell ⟨g, j * 6 + 1, none⟩ (.string s1)).setCell ⟨g, j * 6 + 2, none⟩ (.int .i64 (m2 : Int))).setCell ⟨g, j * 6 + 3, none⟩ (.int .i64 (m3 : Int))).setCell ⟨g, j * 6 + 4, none⟩ (.int .i64 (m4 : Int)))) := P3.out.put j 4 _ _ N3.out.1 (by decide) (by rw [N3.out.2]; rfl) (by rw [N3.out.2]; rfl)
      have hms := markStrs og oN oc m5 _ (HIT2.2.2.2 _ _ P4.out) (by have := HIT2.2.2.1; omega) hm5l
      have HP5 : Hid (∀ e w', MSPost og oN m5 ((((w2.setCell ⟨g, j * 6 + 1, none⟩ (.string s1)).setCell ⟨g, j * 6 + 2, none⟩ (.int .i64 (m2 : Int))).setCell ⟨g, j * 6 + 3, none⟩ (.int .i64 (m3 : Int))).setCell ⟨g, j * 6 + 4, none⟩ (.int .i64 (m4 : Int))) e w' → ∃ ds, MkB w g bs ds w') := fun e w' hp => ⟨_, P4.out.items hp HIT2.1 HIT2.2.1⟩
      have HON : Hid (oN ≤ 1048576) := HIT2.2.2.1
      clear HM2 HM3 b2 hmk1 P1 P2 P3 P4 N1 N2 N3 HIT2 HG2 HJ2
      go_wp2_with fail
      refine hms.mono ?_
      intro e w3 hp3
      obtain ⟨ds, HD⟩ := HP5.out e w3 hp3
      have HD3 : Hid (MkB w g bs ds w3) := HD
      obtain ⟨rfl, _⟩ := hp3
      obtain ⟨m6, hm6⟩ : ∃ m6, m6 = m5 + oN := ⟨_, rfl⟩
      rw [← hm6]
      have HM6 : Hid (m6 ≤ 1 + (j + 1) * 1048581) := by
        show _ ≤ _
        have := HKB.out
        have := HON.out
        omega
      clear hms HP5 HD hm6 d0 d1 d2 d3 d4 d5 f0 f1 f2 f3 f4 f5
      go_wp2_with fail
      go_roundw
      case rel => exact ⟨j + 1, m6, ds, HK1.out, by go_num, rfl, HM6.out, HD3⟩
      case measure => have := HK1.out; simp [intOf]; omega
    · obtain rfl : j = n := by omega
      go_wp2_with fail
      exact HQ.out _ _ m cs rfl HM.out

end Go.Proofs.YtgfjhjkgnghdhaaGreatDoor

set_option linter.unusedVariables false
namespace Go.Proofs.YtgfjhjkgnghdhaaGreatDoor
open Go.RowKit Go.Deep

theorem below_ofH {B : Nat} {w w' : World} (h : Below 0 w w') (hk : ∀ b, b < B → w'.heap[b]? = w.heap[b]?) : Below B w w' := ⟨h.os, h.tape, h.output, h.size, hk⟩
theorem findL_len {it : ByteArray} {ls : List LBlk} {len : Nat} (hs : ∀ i, i < len → smallL (ls.getD i default)) (hl : ls.length = len) : (findL it (ptsL ls)).length ≤ 1073741824 := by
  unfold findL
  split
  · rename_i h
    rw [okP, Bool.and_eq_true, decide_eq_true_eq] at h
    have h1 := ck_len h.1
    rw [List.length_map] at h1
    have h2 := fdT_len (it := it) (ps := ptsL ls) (fun p hp => by
      obtain ⟨b, hb, rfl⟩ := List.mem_map.1 hp
      obtain ⟨j, hj, rfl⟩ := List.mem_iff_getElem.1 hb
      have h3 := (hs j (by omega)).2.1
      rw [List.getD_eq_getElem?_getD, List.getElem?_eq_getElem hj] at h3
      have h4 : (ls[j].zs.take ls[j].n).length ≤ ls[j].n := by rw [List.length_take]; omega
      exact Nat.le_trans h4 h3) (ptsL ls).length (Nat.le_refl _)
    omega
  · exact Nat.zero_le _

set_option maxHeartbeats 2000000 in
set_option maxRecDepth 100000 in
theorem walk_FnExactPaidFind (a : Option Addr) (len cap : Nat) (ls : List LBlk) (it : ByteArray) (w : World) (h : IsBlks w a len cap ls) (hit : it.size ≤ maxLen) (hK : RowG w shaK) (hP : TabP w) (hE : ErrT w) :
    Calls Tryz.prog 3 #[.slice a len cap, .string it] w fun e w' => e = .returned (.bool true) ∧ Below w.heap.size w w' := by
  have HL : Hid (ls.length = len) := h.len
  have hsz := szBlks 1048576 (Nat.le_refl _) a len cap ls w h
  have HTO : Hid (len ≤ 1048576 → (∀ i, i < len → smallL (ls.getD i default)) → ∀ w', Below w.heap.size w w' → Calls Tryz.prog 6 #[.slice a len cap] w' fun e w'' => ∃ cs, e = .returned (.slice (some ⟨w'.heap.size, 0, none⟩) len len) ∧ CopyB w'.heap.size w'.heap.size len ls cs w'' ∧ Below w'.heap.size w' w'') := fun hn hs w' hb => toBlks a len cap ls w' w h hb hn hs
  have HSP : Hid (len ≤ 1048576 → (∀ i, i < len → smallL (ls.getD i default)) → ∀ (B g : Nat) cs w', CopyB B g len ls cs w' → Calls Tryz.prog 5 #[.slice (some ⟨g, 0, none⟩) len len, .string it] w' fun e w'' => ∃ v, e = .returned v ∧ HtRow w'.heap.size v (findL it (ptsL ls)) w'' ∧ Below w'.heap.size w' w'') := fun hn hs B g cs w' hc => by
    have := specPaidFind g len len cs it w' (hc.blksS hn HL.out hs)
    have e : ptsOf cs = ptsL ls := hc.pts
    rw [e] at this
    exact this
  have HIM : Hid (len ≤ 1048576 → (∀ i, i < len → smallL (ls.getD i default)) → ∀ (B g : Nat) cs w', Below w.heap.size w w' → CopyB B g len ls cs w' → Calls Tryz.prog 7 #[.slice (some ⟨g, 0, none⟩) len len, .string it] w' fun e w'' => ∃ v, e = .returned v ∧ HtRow w'.heap.size v (findL it (ptsL ls)) w'' ∧ Below w'.heap.size w' w'') := fun hn hs B g cs w' hb hc => by
    have := implPaidFind g len len cs it w' (hc.blksS hn HL.out hs) (hK.below hb hK.lt) (TabP.below hP hb (Nat.le_refl _)) (hE.below hb hE.lt)
    have e : ptsOf cs = ptsL ls := hc.pts
    rw [e] at this
    exact this
  have HML : Hid (len ≤ 20 ∨ findL it (ptsL ls) = [] ∨ True) := .inr (.inr trivial)
  clear HML
  have HLL : Hid (len ≤ 1048576 → (∀ i, i < len → smallL (ls.getD i default)) → (findL it (ptsL ls)).length ≤ 1073741824) := fun hn hs => findL_len hs HL.out
  clear h hK hP hE
  by_cases hiz : (1048576 : Int) < (it.size : Int)
  · clear HSP HIM HLL HTO hsz
    go_enter Tryz.func3, Tryz.ntmps3
    go_wp2_with fail
    go_ret
    exact ⟨rfl, Below.refl _ _⟩
  go_enter Tryz.func3, Tryz.ntmps3
  go_wp2_with fail
  refine hsz.mono ?_
  rintro e w1 ⟨b1, rfl | ⟨r, rfl, hr, hn, hs⟩⟩
  · go_wp2_with fail
    go_ret
    exact ⟨rfl, b1⟩
  have HS : Hid (∀ i, i < len → smallL (ls.getD i default)) := hs
  have hto := HTO.out hn hs
  have him := HIM.out hn hs
  have hsq := HSP.out hn hs
  have hr0 : ¬ (r : Int) < 0 := by omega
  have HB1 : Hid (Below w.heap.size w w1) := b1
  have hml := HLL.out hn hs
  clear hsz HTO HIM HSP HLL b1 hs hiz
  generalize findL it (ptsL ls) = FL at him hsq hml
  go_wp2_with fail
  refine (hto _ HB1.out).mono ?_
  rintro e w2 ⟨cs2, rfl, C2, b2⟩
  have HB2 : Hid (Below w.heap.size w w2) := HB1.out.trans (b2.mono HB1.out.size)
  have hsp := hsq _ _ _ _ C2
  clear b2 C2
  generalize w1.heap.size = g1 at hsp ⊢
  go_wp2_with fail
  refine hsp.mono ?_
  rintro e w3 ⟨v4, rfl, T4, b3⟩
  have HB3 : Hid (Below w.heap.size w w3) := HB2.out.trans (b3.mono HB2.out.size)
  have HT3 : Hid (HtRow w2.heap.size v4 FL w3) := T4
  clear hsp b3 HB2 T4
  go_wp2_with fail
  refine (hto _ HB3.out).mono ?_
  rintro e w4 ⟨cs4, rfl, C4, b4⟩
  have HB4 : Hid (Below w.heap.size w w4) := HB3.out.trans (b4.mono HB3.out.size)
  have HT4 : Hid (HtRow w2.heap.size v4 FL w4) := HT3.out.below b4
  have HV4 : Hid (∀ g, v4.ownBlock = some g → g < w3.heap.size) := fun g hg => (World.ownsRow.lt HT3.out g hg).2
  have HC4 : Hid (CopyB w3.heap.size w3.heap.size len ls cs4 w4) := C4
  have HI4 : Hid (∀ c ∈ cs4, c.g < w4.heap.size) := fun c hc => (C4.items c hc).1.lt
  have HG3 : Hid (w3.heap.size < w4.heap.size ∧ w.heap.size ≤ w3.heap.size) := ⟨C4.row.lt, HB3.out.size⟩
  have him4 := him _ _ _ _ HB4.out C4
  clear b4 C4 HT3
  generalize w3.heap.size = g3 at him4 HC4 HV4 HG3 ⊢
  go_wp2_with fail
  refine him4.mono ?_
  rintro e w5 ⟨v6, rfl, T6, b5⟩
  have HB5 : Hid (Below w.heap.size w w5) := HB4.out.trans (b5.mono HB4.out.size)
  have HT5 : Hid (HtRow w2.heap.size v4 FL w5) := HT4.out.below b5
  have HT6 : Hid (HtRow w4.heap.size v6 FL w5) := T6
  have HC5 : Hid (CopyB g3 g3 len ls cs4 w5) := HC4.out.below b5
  have heq := hitsEq T6 HT5.out hml
  clear him4 b5 T6 HC4 HT4
  go_wp2_with fail
  refine heq.mono ?_
  rintro e w6 ⟨rfl, b6⟩
  have HB6 : Hid (Below w.heap.size w w6) := HB5.out.trans (b6.mono HB5.out.size)
  have HU6 : Hid (HtRow w2.heap.size v4 FL w6) := HT5.out.below b6
  have HV6 : Hid (HtRow w4.heap.size v6 FL w6) := HT6.out.below b6
  have HC6 : Hid (CopyB g3 g3 len ls cs4 w6) := HC5.out.below b6
  clear heq b6 HT5 HT6 HC5 HB5
  go_wp2_with fail
  refine (hto _ HB6.out).mono ?_
  rintro e w7 ⟨cs7, rfl, C7, b7⟩
  have HB7 : Hid (Below w.heap.size w w7) := HB6.out.trans (b7.mono HB6.out.size)
  have HU7 : Hid (HtRow w2.heap.size v4 FL w7) := HU6.out.below b7
  have HV7 : Hid (HtRow w4.heap.size v6 FL w7) := HV6.out.below b7
  have C5 := HC6.out.below b7
  have HC7 : Hid (CopyB g3 g3 len ls cs4 w7) := C5
  have heq := eqBlks g3 w6.heap.size len len len cs4 cs7 w7 C5.at C7.at C5.its C7.its (C5.pts.trans C7.pts.symm) C5.len hn (fun c hc => by have := C5.few HL.out HS.out c hc; omega)
  clear b7 C7 C5 HU6 HV6 HC6
  generalize w6.heap.size = g6 at heq ⊢
  go_wp2_with fail
  refine heq.mono ?_
  rintro e w8 ⟨rfl, b8⟩
  have HB8 : Hid (Below w.heap.size w w8) := HB7.out.trans (b8.mono HB7.out.size)
  have HU8 : Hid (HtRow w2.heap.size v4 FL w8) := HU7.out.below b8
  have HV8 : Hid (HtRow w4.heap.size v6 FL w8) := HV7.out.below b8
  have C8 := HC7.out.below b8
  have hmb := markBlks g3 len len cs4 w8 ⟨C8.row, rfl, fun c hc => ⟨by have := SBk.of (C8.items c hc).1; rw [← (C8.items c hc).2.1] at this; exact this, by have := (C8.items c hc).2.2.2; omega⟩, Nat.le_refl _, fun b _ _ _ => rfl, Below.refl _ _⟩ C8.len hn (C8.few HL.out HS.out)
  have HCG : Hid (∀ c ∈ cs4, g3 < c.g) := fun c hc => (C8.items c hc).2.2.2
  clear heq b8 C8 HU7 HV7 HC7 HB7
  go_wp2_with fail
  refine hmb.mono ?_
  rintro e w9 ⟨kk, ds, rfl, hm9⟩
  have HB9 : Hid (Below w.heap.size w w9) := by
    refine HB8.out.trans (below_ofH hm9.fr fun b hb => hm9.far b (Nat.lt_of_lt_of_le hb HB8.out.size) (by have := HG3.out.2; omega) (fun c hc => by have := HCG.out c hc; have := HG3.out.2; omega))
  have HU9 : Hid (HtRow w2.heap.size v4 FL w9) := HU8.out.keep (fun g hv => hm9.far g (World.ownsRow.lt HU8.out g hv).2 (by have := HV4.out g hv; omega) (fun c hc => by have := HV4.out g hv; have := HCG.out c hc; omega))
  have HV9 : Hid (HtRow w4.heap.size v6 FL w9) := HV8.out.keep (fun g hv => hm9.far g (World.ownsRow.lt HV8.out g hv).2 (by have := (World.ownsRow.lt HV8.out g hv).1; have := HG3.out.1; omega) (fun c hc => by have := (World.ownsRow.lt HV8.out g hv).1; have := HI4.out c hc; omega))
  have hk0 : ¬ (kk : Int) < 0 := by omega
  have heq := hitsEq HV9.out HU9.out hml
  clear hmb hm9 HU8 HV8 HB8
  go_wp2_with fail
  refine heq.mono ?_
  rintro e w10 ⟨rfl, b10⟩
  have HB10 : Hid (Below w.heap.size w w10) := HB9.out.trans (b10.mono HB9.out.size)
  have HU10 : Hid (HtRow w2.heap.size v4 FL w10) := HU9.out.below b10
  have HV10 : Hid (HtRow w4.heap.size v6 FL w10) := HV9.out.below b10
  have hms := hitsMark HV10.out (by omega)
  clear heq b10 HU9 HV9 HB9
  obtain ⟨mm, hmm⟩ : ∃ mm, mm = 1 + 2 * FL.length := ⟨_, rfl⟩
  rw [← hmm] at hms
  have HMM : Hid (mm = 1 + 2 * FL.length) := hmm
  clear hmm
  go_wp2_with fail
  refine hms.mono ?_
  rintro e w11 ⟨rfl, hh11, f11, k11⟩
  have HB11 : Hid (Below w.heap.size w w11) := HB10.out.trans (below_ofH f11 fun b hb => k11 b (Nat.lt_of_lt_of_le hb HB10.out.size) (by have := HG3.out; omega))
  have HU11 : Hid (HtRow w2.heap.size v4 FL w11) := HU10.out.keep (fun g hv => k11 g (World.ownsRow.lt HU10.out g hv).2 (by have := HV4.out g hv; have := HG3.out; omega))
  have HH11 : Hid (HeldH v6 FL.length w11) := hh11
  have hhe := hitsHeld hh11 (by omega)
  rw [← HMM.out] at hhe
  clear hms hh11 f11 k11 HU10 HV10 HB10
  go_wp2_with fail
  refine hhe.mono ?_
  rintro e w12 ⟨rfl, b12⟩
  have HB12 : Hid (Below w.heap.size w w12) := HB11.out.trans (b12.mono HB11.out.size)
  have HU12 : Hid (HtRow w2.heap.size v4 FL w12) := HU11.out.below b12
  have HH12 : Hid (HeldH v6 FL.length w12) := HH11.out.below b12
  have hm0 : ¬ (mm : Int) < 0 := by omega
  clear hhe b12 HU11 HH11 HB11
  go_wp2_with fail
  refine (hto _ HB12.out).mono ?_
  rintro e w13 ⟨cs13, rfl, C13, b13⟩
  have HB13 : Hid (Below w.heap.size w w13) := HB12.out.trans (b13.mono HB12.out.size)
  have HU13 : Hid (HtRow w2.heap.size v4 FL w13) := HU12.out.below b13
  have HH13 : Hid (HeldH v6 FL.length w13) := HH12.out.below b13
  have him13 := him _ _ _ _ HB13.out C13
  clear b13 C13 HU12 HH12
  generalize w12.heap.size = g12 at him13 ⊢
  go_wp2_with fail
  refine him13.mono ?_
  rintro e w14 ⟨v14, rfl, T14, b14⟩
  have HB14 : Hid (Below w.heap.size w w14) := HB13.out.trans (b14.mono HB13.out.size)
  have HU14 : Hid (HtRow w2.heap.size v4 FL w14) := HU13.out.below b14
  have HH14 : Hid (HeldH v6 FL.length w14) := HH13.out.below b14
  have heq := hitsEq T14 HU14.out hml
  clear him13 b14 T14 HU13 HH13 HB13
  go_wp2_with fail
  refine heq.mono ?_
  rintro e w15 ⟨rfl, b15⟩
  have HB15 : Hid (Below w.heap.size w w15) := HB14.out.trans (b15.mono HB14.out.size)
  have hhe := hitsHeld (HH14.out.below b15) (by omega)
  rw [← HMM.out] at hhe
  clear heq b15 HU14 HH14 HB14
  go_wp2_with fail
  refine hhe.mono ?_
  rintro e w16 ⟨rfl, b16⟩
  go_wp2_with fail
  go_ret
  exact ⟨rfl, HB15.out.trans (b16.mono HB15.out.size)⟩

end Go.Proofs.YtgfjhjkgnghdhaaGreatDoor

namespace Go.Proofs.YtgfjhjkgnghdhaaGreatDoor
open Go.ChangeShapes Go.WideShapes Go.ChangeAt Go.RowKit
open Go.ChangeMaps (open_string shut_string)
set_option linter.unusedVariables false

theorem own_fnExactPaidFind : ownKnob Tryz.prog.godebug = none := by kernel_rfl
theorem laid_fnExactPaidFind : laidOutB Tryz.prog = true := by kernel_rfl
theorem table_fnExactPaidFind {W : World} (h : laidMetH Tryz.prog Rows.fnExactPaidFindRow.laid W) : RowG W shaK ∧ TabP W ∧ ErrT W := tabs_of_laidE h

theorem met_fnExactPaidFind (os : Os) : laidMetH Tryz.prog Rows.fnExactPaidFindRow.laid ((laidWorldE os).forCall (fun _ _ => 0) ⟨#[], #[.slice none 0 0, .string ByteArray.empty], []⟩).memory :=
  laidMetH_of_parts (laidMet_of_run' 8 (by kernel_rfl) (by kernel_rfl)) (by kernel_rfl)
theorem reads_fnExactPaidFind (os : Os) {H : Type} (enc : TypeId × Value → H) : ∃ places, DataW.whole enc Tryz.prog ((laidWorldE os).forCall (fun _ _ => 0) ⟨#[], #[.slice none 0 0, .string ByteArray.empty], []⟩).memory Tryz.f3.params.toList Rows.fnExactPaidFindSpec.vars false (#[.slice none 0 0, .string ByteArray.empty] : Array Value).toList 8 = some ([.nil, .lit (.string [])], [Rows.laid_loop_example_cordillera_impl_sumRounds], places) :=
  ⟨MemPlace.row ⟨1, 0, none⟩ 64, by kernel_rfl⟩

set_option maxRecDepth 100000 in
theorem lifted_fnExactPaidFind (os : Os) (started : os.Started) (H : Type) (enc : TypeId × Value → H) (F : Stop.Interp) :
    ReturnsInHanded {} Tryz.checked os 3 .any ((OpenSpec.ofChange Rows.fnExactPaidFindSpec).preRow enc Tryz.prog Tryz.f3 Rows.fnExactPaidFindRow.domain false Rows.fnExactPaidFindRow.laid) (((OpenSpec.ofChange Rows.fnExactPaidFindSpec).at F).post enc Tryz.prog Tryz.f3 false true false false) := by
  obtain ⟨places, hx⟩ := reads_fnExactPaidFind os enc
  refine returnsInHanded_of_row (C := Tryz.checked) (s := OpenSpec.ofChange Rows.fnExactPaidFindSpec) own_fnExactPaidFind started (by kernel_rfl) Tryz.func3
    (witness_row_at (enc := enc) (C := Tryz.checked) false (laidWorldE os) #[.slice none 0 0, .string ByteArray.empty] rfl (by kernel_rfl) (by kernel_rfl) (by kernel_rfl)
      (OpenSpec.preRow_of_cond 8 hx (by kernel_rfl) (fun k hk => by cases hk) (by kernel_rfl) (met_fnExactPaidFind os))) ?_
  intro W base args ds gs before hval0 hW _ _ _ hL _ _
  have hval : ∀ (j : Nat) t v, Tryz.f3.params[j]? = some t → args[j]? = some v → Value.okWide Tryz.prog W .any base t v := hval0
  have hW' := hW
  obtain ⟨p, q, hA0, hV, rfl, hfz, hnd⟩ := hW
  have hA : DataW.TrodAll enc Tryz.prog W 0 (fun _ => true) true Tryz.f3.params.toList args.toList ds p := hA0
  rw [Tryz.params3] at hA hval
  obtain ⟨v0, vs0, d0, ds0, p0, q0, hargs, rfl, rfl, h0, r0⟩ := trodAll_cons hA
  obtain ⟨v1, vs1, d1, ds1, p1, q1, rfl, rfl, rfl, h1, r1⟩ := trodAll_cons r0
  obtain ⟨rfl, rfl, rfl⟩ := trodAll_nil r1
  obtain rfl : args = #[v0, v1] := by cases args; simp_all
  obtain ⟨gv, tv, cv, fv, dv, pv, rfl, hgv, htv, hvv, hdv, rfl⟩ := trodVars_one hV
  obtain ⟨a0, len0, cap0, rfl⟩ := okWide_slice Tryz.underlying22 (hval 0 22 v0 rfl rfl)
  have k0 := h0
  have lt0 : ∀ x ∈ p0, x.block < W.heap.size := by obtain ⟨m, hm⟩ := k0; exact DataW.trod_lt m _ _ _ hm
  obtain ⟨z0, w0⟩ := open_blocks h0
  obtain ⟨a1, rfl, rfl, rfl, w1⟩ := open_string Tryz.underlying9 (hval 1 9 v1 rfl rfl) h1
  clear hA0 hval0
  refine (walk_FnExactPaidFind a0 len0 cap0 z0 a1 W w0 w1 (table_fnExactPaidFind hL).1 (table_fnExactPaidFind hL).2.1 (table_fnExactPaidFind hL).2.2).mono fun e W' ⟨he, bel⟩ => ?_
  subst he
  obtain ⟨pv', hpv⟩ := varsBack laid_fnExactPaidFind hgv htv hvv hdv bel
  exact ⟨_, rfl, _, _, _, [], _, pv', hW', trodAll_mk1 (shut_bool Tryz.underlying4 _), (trodAll_cons_mk (Below.trod laid_fnExactPaidFind (by kernel_rfl) (of_decide_eq_true (by kernel_rfl)) k0 bel lt0) (trodAll_cons_mk (shut_string Tryz.underlying9 w1) trodAll_mk0)), hpv, bel.frame _, fun h => by cases h⟩

theorem fnExactPaidFind_said : Rows.FnExactPaidFindSaid :=
  OpenClaim.holds_of_cond 3 Tryz.f3 rfl rfl rfl rfl rfl rfl rfl ⟨rfl, rfl, rfl, rfl, rfl⟩ rfl rfl rfl rfl rfl (by kernel_rfl) Tryz.func3 (by kernel_rfl)
    (of_decide_eq_true (by kernel_rfl)) (by unfold Func.isWrapper; first | (rw [if_pos (by decide +kernel)]; kernel_rfl) | (rw [if_neg (by decide +kernel)]; exact ⟨rfl, rfl⟩))
    (fun os started H enc _ F => by rw [OpenClaim.pre_eq_preRow]; exact lifted_fnExactPaidFind os started H enc F)
theorem plain_fnExactPaidFind (f : FuncId) (fn : Func) (hf : Tryz.pinned.checked.prog.funcNamed "loop.example/cordillera/laws.FnExactPaidFind" = some f) (hfn : Tryz.pinned.checked.prog.funcs[f]? = some fn) :
    true = Tryz.pinned.checked.prog.looks [] ∧ ∀ (j : Nat) t, fn.params[j]? = some t → Tryz.pinned.checked.prog.wantsStandIn t = false := by
  obtain rfl : f = 3 := Option.some.inj ((show Tryz.prog.funcNamed "loop.example/cordillera/laws.FnExactPaidFind" = some 3 by kernel_rfl).symm.trans hf) |>.symm
  obtain rfl : fn = Tryz.f3 := (Option.some.inj (Tryz.func3.symm.trans hfn)).symm
  refine ⟨by kernel_rfl, fun j t ht => ?_⟩
  rw [Tryz.params3] at ht
  have hall : ∀ t ∈ (#[22, 9] : Array TypeId), Tryz.prog.wantsStandIn t = false := by
    intro t ht
    simp only [List.mem_toArray, List.mem_cons, List.not_mem_nil, or_false] at ht
    rcases ht with rfl | rfl <;> kernel_rfl
  exact hall t (Array.mem_of_getElem? ht)
theorem fnExactPaidFind_holds : Rows.FnExactPaidFindCardSaid :=
  Claim7.holds_tied_plain_at .later [] _ _ _ _ fnExactPaidFind_said (fun _ h => by cases h) (by kernel_rfl) (fun _ h => by cases h) fnExactPaidFind_row_tie rfl ⟨rfl, rfl⟩ (by kernel_rfl) rfl plain_fnExactPaidFind (by kernel_rfl)
#print axioms fnExactPaidFind_holds
end Go.Proofs.YtgfjhjkgnghdhaaGreatDoor

