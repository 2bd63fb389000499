/-
  Texts that the last part needs, joined.
-/
import Derived.Test.YtnooadfgoccegaaDoorPart1
import Derived.Test.YtnooadfgoccegaaDoorPart2
import Derived.RegionTactic
import Derived.Deep.RegionWith
import Derived.Deep.RegionHeld2
import Derived.Deep.Cut
import Derived.BigRegion
import Derived.BigQuiet
import Derived.Deep.QuietTactic
import Derived.ChangeAlike
import Derived.Test.YtnooadfgoccegaaDoorProg
import Derived.Deep.RegionHeld3
set_option linter.unusedVariables false
namespace Go.Proofs.YtnooadfgoccegaaDoor
open Go.RowKit

def lenB (n : Nat) : List UInt8 := (List.range 8).map fun j => UInt8.ofNat (n / 2 ^ (8 * (7 - j)) % 256)
def padZ (n : Nat) : Nat := padLen n - n - 9
def padB (t : List UInt8) : List UInt8 := t ++ 128 :: List.replicate (padZ t.length) 0 ++ lenB (t.length * 8)
theorem lenB_take (n j : Nat) (h : j < 8) : (lenB n).take (j + 1) = (lenB n).take j ++ [UInt8.ofNat (n / 2 ^ (8 * (7 - j)) % 256)] := by
  have hl : j < (lenB n).length := by simp [lenB]; omega
  rw [List.take_succ_eq_append_getElem hl]
  simp [lenB]
theorem len_digit (n j : Nat) (hn : n < 18446744073709551616) (hj : j < 8) : n * 256 ^ j % 18446744073709551616 / 72057594037927936 = n / 2 ^ (8 * (7 - j)) % 256 := by
  match j, hj with
  | 0, _ => simp; omega
  | 1, _ => simp; omega
  | 2, _ => simp; omega
  | 3, _ => simp; omega
  | 4, _ => simp; omega
  | 5, _ => simp; omega
  | 6, _ => simp; omega
  | 7, _ => simp; omega
theorem padB_length (t : List UInt8) : (padB t).length = padLen t.length := by
  simp [padB, lenB, padZ, padLen]
  omega

theorem infoU8i : (Tryd.prog.info? 5).map (fun i => (i.zero, i.size, i.bytes)) = some (some (.int .u8 0), 1, 1) := by kernel_rfl

theorem byteRow_of_text (e : TypeId) (w : World) (s : ByteArray) (hs : s.size ≤ 1073741824) :
    ByteRow e w.heap.size (w.drew.alloc (.cells (bytesRow s (grownCap w s.size 0 e)) e ((bytesRow s (grownCap w s.size 0 e)).size, (bytesRow s (grownCap w s.size 0 e)).size + 1))) (.slice (some ⟨w.heap.size, 0, none⟩) s.size (grownCap w s.size 0 e)) s.data.toList := by
  have hge := grownCap_ge w s.size 0 e
  have hcm := grownCap_le_maxLen w s.size 0 e (by unfold maxLen; omega)
  have hsz : (bytesRow s (grownCap w s.size 0 e)).size = grownCap w s.size 0 e := by
    simp [bytesRow]
    have : s.data.size = s.size := rfl
    omega
  refine ⟨w.heap.size, _, _, _, by simp, Nat.le_refl _, heap_alloc_new w.drew _, Or.inr (by rw [hsz]; exact Nat.le_refl _), by simpa using hge, hcm, hsz, ?_⟩
  simp [bytesRow, Lib.byteCells]

def lenOf : Value → Nat
  | .slice _ n _ => n
  | _ => 0

set_option maxHeartbeats 1000000 in
set_option maxRecDepth 100000 in
theorem paddedI (s : ByteArray) (w : World) (hs : s.size ≤ 1073741824) :
    Calls Tryd.prog 31 #[.string s] w fun e w' => ∃ g cap, e = .returned (.slice (some ⟨g, 0, none⟩) (padLen s.size) cap) ∧ ByteRow 5 w.heap.size w' (.slice (some ⟨g, 0, none⟩) (padLen s.size) cap) (padB s.data.toList) ∧ Below w.heap.size w w' := by
  obtain ⟨i0, hi, hz0, hz1, hz2⟩ := info_parts infoU8i
  have hcv := run_bytes_of_string (P := Tryd.prog) w 9 46 5 s Tryd.underlying9 Tryd.underlying46 Tryd.underlying5
  have hrow0 := byteRow_of_text 5 w s hs
  have hb0 : Below w.heap.size w (w.drew.alloc (.cells (bytesRow s (grownCap w s.size 0 5)) 5 ((bytesRow s (grownCap w s.size 0 5)).size, (bytesRow s (grownCap w s.size 0 5)).size + 1))) := (Below.drew (Below.refl _ w)).alloc (Nat.le_refl _) _
  generalize (w.drew.alloc (.cells (bytesRow s (grownCap w s.size 0 5)) 5 ((bytesRow s (grownCap w s.size 0 5)).size, (bytesRow s (grownCap w s.size 0 5)).size + 1))) = w1 at hcv hrow0 hb0
  generalize grownCap w s.size 0 5 = cap0 at hcv hrow0
  have hsz0 := hb0.size
  have hlen0 : s.size = s.data.toList.length := by simp
  have HL0 : Hid (s.size = s.data.toList.length) := hlen0
  clear hlen0
  go_enter Tryd.func31, Tryd.ntmps31
  go_wp2_with (at_builtin; refine wp_appB rfl _ _ 46 rfl w.heap.size 5 i0 Tryd.underlying46 hi hz0 hz1 hz2 w.heap.size s.size cap0 s.data.toList HL0.out rfl hrow0 128 128 rfl rfl (by omega) hsz0 ?_)
  intro g1 cap1 w2 hrow1 hb1
  clear hcv hrow0
  have hb2 := hb0.trans hb1
  have HZ : Hid (padLen s.size = s.size + 9 + padZ s.size ∧ padLen s.size % 64 = 0 ∧ padZ s.size ≤ 63) := by
    show _ ∧ _ ∧ _
    unfold padZ padLen
    omega
  have HPB : Hid (padB s.data.toList = s.data.toList ++ 128 :: List.replicate (padZ s.size) 0 ++ lenB (s.size * 8)) := by
    show _ = _
    rw [padB, ← HL0.out]
  obtain ⟨t, ht⟩ : ∃ t, t = s.data.toList := ⟨_, rfl⟩
  obtain ⟨L, hL⟩ : ∃ L, L = padLen s.size := ⟨_, rfl⟩
  rw [← ht] at hrow1 HL0 HPB
  rw [← hL] at HZ
  generalize padZ s.size = Z at HZ HPB
  have HTT : Hid (t = s.data.toList) := ht
  have HLL : Hid (L = padLen s.size) := hL
  clear ht hL
  go_wp2
  go_loopw [3] (fun v wr => ∃ k n g cap : Nat, k ≤ Z ∧ Hid (n = s.size + 1 + k) ∧ n ≤ 1073741900 ∧ v = .slice (some ⟨g, 0, none⟩) n cap ∧ ByteRow 5 w.heap.size wr (.slice (some ⟨g, 0, none⟩) n cap) (t ++ 128 :: List.replicate k 0) ∧ Below w.heap.size w wr) (fun v _ => L - lenOf v)
  case atStart => exact ⟨0, s.size + 1, g1, cap1, by omega, rfl, by omega, rfl, hrow1, hb2⟩
  case round =>
    clear hrow1 hb1 hb2
    obtain ⟨k, n, g, cap, hk, hn, hn2, rfl, hrow, hbw⟩ := hrel
    have hsz := hbw.size
    have hln : n = (t ++ 128 :: List.replicate k 0).length := by rw [hn.out]; simp; rw [← HL0.out]; omega
    by_cases hlt : k < Z
    · have hne : (((n : Int) % 64) != 56) = true := by
        have h1 := HZ.out; have h2 := hn.out
        rw [bne_iff_ne]
        omega
      have HLN : Hid (n = (t ++ 128 :: List.replicate k 0).length) := hln
      clear hln
      go_wp2_with (at_builtin; refine wp_appB rfl _ _ 46 rfl w.heap.size 5 i0 Tryd.underlying46 hi hz0 hz1 hz2 g n cap (t ++ 128 :: List.replicate k 0) HLN.out rfl hrow 0 0 rfl rfl (by omega) hsz ?_)
      intro g2 cap2 w3 hrow3 hb3
      have hrow4 : ByteRow 5 w.heap.size w3 (.slice (some ⟨g2, 0, none⟩) (n + 1) cap2) (t ++ 128 :: List.replicate (k + 1) 0) := by
        rw [List.replicate_succ']
        simpa using hrow3
      clear hrow3
      go_wp2
      go_roundw
      case rel => exact ⟨k + 1, n + 1, g2, cap2, by omega, by show n + 1 = _; have := hn.out; omega, by have := hn.out; have := HZ.out; omega, rfl, hrow4, hbw.trans hb3⟩
      case measure => show L - (n + 1) < L - n; have := hn.out; have := HZ.out; omega
    · have hkz : k = Z := by omega
      have hne : (((n : Int) % 64) != 56) = false := by
        have h1 := HZ.out; have h2 := hn.out
        rw [bne_eq_false_iff_eq]
        omega
      have HN : Hid (n + 8 = L) := by show _ = _; have := HZ.out; have := hn.out; omega
      have HLN : Hid (n = (t ++ 128 :: List.replicate k 0).length) := hln
      have HKZ : Hid (k = Z) := hkz
      obtain ⟨w0, rfl⟩ : ∃ w0 : World, w0 = wr := ⟨_, rfl⟩
      obtain ⟨T, hT⟩ : ∃ T, T = t ++ 128 :: List.replicate k 0 := ⟨_, rfl⟩
      rw [← hT] at hrow HLN
      have HT : Hid (T = t ++ 128 :: List.replicate k 0) := hT
      clear hln hkz hT hk hlt hn
      go_wp2
      go_loopw [3, 4, 20] (fun v m i wr => ∃ j y g cap : Nat, j ≤ 8 ∧ i = .int .i64 j ∧ m = .int .u64 y ∧ Hid (y = s.size * 8 * 256 ^ j % 18446744073709551616) ∧ v = .slice (some ⟨g, 0, none⟩) (n + j) cap ∧ ByteRow 5 w.heap.size wr (.slice (some ⟨g, 0, none⟩) (n + j) cap) (T ++ (lenB (s.size * 8)).take j) ∧ Below w.heap.size w wr) (fun _ _ i _ => 8 - (intOf i).toNat)
      case atStart => exact ⟨0, s.size * 8, g, cap, by omega, rfl, by go_num, by show _ = _; simp; omega, rfl, by simpa using hrow, hbw⟩
      case round =>
        clear hrow hbw hsz
        obtain ⟨j, y, g2, cap2, hj, rfl, rfl, hy, rfl, hrow, hbw⟩ := hrel
        have hsz := hbw.size
        have hyl : y < 18446744073709551616 := by rw [hy.out]; exact Nat.mod_lt _ (by decide)
        by_cases hjlt : j < 8
        · obtain ⟨d, hd⟩ : ∃ d : Nat, d = y / 72057594037927936 := ⟨_, rfl⟩
          have rd : (y : Int) / 72057594037927936 = (d : Int) := by rw [hd]; simp
          have hd256 : d < 256 := by rw [hd]; omega
          have HD : Hid (UInt8.ofNat d = UInt8.ofNat (s.size * 8 / 2 ^ (8 * (7 - j)) % 256)) := by
            show _ = _
            rw [hd, hy.out, len_digit _ _ (by omega) hjlt]
          have HDN : Hid ((d : Int) = ((UInt8.ofNat d).toNat : Int)) := by show _ = _; simp; omega
          have HY : Hid (y * 256 % 18446744073709551616 = s.size * 8 * 256 ^ (j + 1) % 18446744073709551616) := by
            show _ = _
            rw [hy.out, Nat.pow_succ, ← Nat.mul_assoc, Nat.mod_mul_mod]
          have HLJ : Hid (n + j = (T ++ (lenB (s.size * 8)).take j).length) := by
            show _ = _
            rw [List.length_append, ← HLN.out]
            simp [lenB]
            omega
          clear hd
          go_wp2_with (at_builtin; refine wp_appB rfl _ _ 46 rfl w.heap.size 5 i0 Tryd.underlying46 hi hz0 hz1 hz2 g2 (n + j) cap2 (T ++ (lenB (s.size * 8)).take j) HLJ.out rfl hrow (UInt8.ofNat d) (d : Int) HDN.out rfl (by omega) hsz ?_)
          intro g3 cap3 w3 hrow3 hb3
          have hrow4 : ByteRow 5 w.heap.size w3 (.slice (some ⟨g3, 0, none⟩) (n + j + 1) cap3) (T ++ (lenB (s.size * 8)).take (j + 1)) := by
            rw [lenB_take _ _ hjlt, ← HD.out]
            first | exact hrow3 | (rw [← List.append_assoc]; exact hrow3)
          clear hrow3
          go_wp2
          go_roundw
          case rel => exact ⟨j + 1, y * 256 % 18446744073709551616, g3, cap3, by omega, by go_num, by go_num, HY, rfl, hrow4, hbw.trans hb3⟩
          case measure => simp [intOf]; omega
        · have hfin : ByteRow 5 w.heap.size wr (.slice (some ⟨g2, 0, none⟩) L cap2) (t ++ 128 :: List.replicate Z 0 ++ lenB (s.size * 8)) := by
            have hj8 : j = 8 := by omega
            rw [List.take_of_length_le (by simp [lenB]; omega), HT.out, HKZ.out] at hrow
            have hnl : n + j = L := by have := HN.out; omega
            rw [← hnl]
            exact hrow
          have HL8 : Hid (n + j = L) := by show _ = _; have := HN.out; omega
          clear hrow
          go_wp2
          go_ret
          rw [← HTT.out, ← HLL.out, HPB.out]
          exact ⟨g2, cap2, by rw [← HL8.out]; rfl, hfin, hbw⟩

end Go.Proofs.YtnooadfgoccegaaDoor

set_option linter.unusedVariables false
namespace Go.Proofs.YtnooadfgoccegaaDoor
open Go.RowKit

theorem size64 : (Tryd.prog.info? 53).map (·.size) = some 64 := by kernel_rfl
theorem keepO {w : World} {G i j : Nat} {v u : Value} (h : w.cell? ⟨G, j, none⟩ = some u) (hne : ¬ i = j) : (w.setCell ⟨G, i, none⟩ v).drew.cell? ⟨G, j, none⟩ = some u := by
  have : (w.setCell ⟨G, i, none⟩ v).cell? ⟨G, j, none⟩ = w.cell? ⟨G, j, none⟩ := by
    apply World.cell?_setCell_other
    intro he
    simp only [Addr.mk.injEq, true_and, and_true] at he
    exact hne he
  exact this.trans h

set_option maxHeartbeats 1000000 in
set_option maxRecDepth 100000 in
theorem scheduleI (bs : List Nat) (g o cap : Nat) (w : World) (hn : ∀ i, i < bs.length → w.cell? ⟨g, o + i, none⟩ = some (.int .u8 ((bs.getD i 0 : Nat) : Int))) (hl : bs.length = 64) (hbb : ∀ x ∈ bs, x < 256) (hg : g < w.heap.size) :
    Calls Tryd.prog 33 #[.slice (some ⟨g, o, none⟩) 64 cap] w fun e w' => e = .returned (.agg (uCells (schedTo bs 48))) ∧ Below w.heap.size w w' := by
  have z1 : RowU 53 ((w.alloc (.cells (uCells (List.replicate 64 0)) 53)).alloc (.cells (uCells (List.replicate 64 0)) 53)) w.heap.size (List.replicate 64 0) := by
    show _ = _
    rw [Below.heap_alloc _ _ _ (by simp)]
    exact heap_alloc_new w _
  have z2 : RowU 53 ((w.alloc (.cells (uCells (List.replicate 64 0)) 53)).alloc (.cells (uCells (List.replicate 64 0)) 53)) (w.heap.size + 1) (fillTo bs 0) := by
    have := heap_alloc_new (w.alloc (.cells (uCells (List.replicate 64 0)) 53)) (.cells (uCells (List.replicate 64 0)) 53)
    rw [show (w.alloc (.cells (uCells (List.replicate 64 0)) 53)).heap.size = w.heap.size + 1 from by simp] at this
    exact this
  have z3 : Below w.heap.size w ((w.alloc (.cells (uCells (List.replicate 64 0)) 53)).alloc (.cells (uCells (List.replicate 64 0)) 53)) := ((Below.refl _ w).alloc (Nat.le_refl _) _).alloc (by simp) _
  go_enter Tryd.func33, Tryd.ntmps33
  go_wp2
  go_loopw [9] (fun i wr => ∃ k : Nat, k ≤ 64 ∧ i = .int .i64 k ∧ RowU 53 wr w.heap.size (List.replicate 64 0) ∧ RowU 53 wr (w.heap.size + 1) (fillTo bs k) ∧ Below w.heap.size w wr) (fun i _ => 64 - (intOf i).toNat)
  case atStart => exact ⟨0, by omega, rfl, z1, z2, z3⟩
  case round =>
    clear z1 z2 z3
    obtain ⟨k, hk, rfl, hr0, hr1, hbw⟩ := hrel
    by_cases hlt : k < 64
    · obtain ⟨q, hq⟩ : ∃ q : Nat, q = k / 4 := ⟨_, rfl⟩
      have rq : (k : Int) / 4 = (q : Int) := by rw [hq]; simp
      have hq16 : q < 16 := by omega
      obtain ⟨b, hb⟩ : ∃ b, b = bs.getD k 0 := ⟨_, rfl⟩
      have cb : wr.cell? ⟨g, o + k, none⟩ = some (.int .u8 (b : Int)) := by
        rw [hbw.cell (p := ⟨g, o + k, none⟩) hg, hn k (by omega), hb]
      have hb256 : b < 256 := by rw [hb]; exact byte_getD hbb k
      obtain ⟨old, hold⟩ : ∃ x, x = (fillTo bs k).getD q 0 := ⟨_, rfl⟩
      have cq := hr1.cell q (by rw [fillTo_length]; omega)
      rw [← hold] at cq
      have hfz := hr1.frozen q
      obtain ⟨v, hv⟩ : ∃ v : Nat, v = old * 256 % 4294967296 ||| b := ⟨_, rfl⟩
      have rv : bits .or .u32 ((old : Int) * 256 % 4294967296) (b : Int) = (v : Int) := by
        rw [hv, ← or32 _ _ (Nat.mod_lt _ (by decide)) (by omega)]
        simp
      have HV : Hid ((fillTo bs k).set q v = fillTo bs (k + 1)) := by
        show _ = _
        rw [fillTo, hv, hold, hq, hb]
      have H0 : Hid (RowU 53 wr w.heap.size (List.replicate 64 0)) := hr0
      have H1 : Hid (RowU 53 wr (w.heap.size + 1) (fillTo bs k)) := hr1
      have HB : Hid (Below w.heap.size w wr) := hbw
      clear hq hb hold hv hr0 hr1 hbw hn
      go_wp2
      go_roundw
      case rel =>
        refine ⟨k + 1, by omega, by go_num, ?_, ?_, HB.out.setCell (p := ⟨w.heap.size + 1, q, none⟩) (by show w.heap.size ≤ w.heap.size + 1; omega) _⟩
        · exact H0.out.keep (Below.heap_setCell wr ⟨w.heap.size + 1, q, none⟩ (.int .u32 (v : Int)) w.heap.size (by show w.heap.size ≠ w.heap.size + 1; omega))
        · have := H1.out.set q v
          rw [HV.out] at this
          exact this
      case measure => simp [intOf]; omega
    · have hk64 : k = 64 := by omega
      have hrow0 : RowU 53 wr (w.heap.size + 1) (schedTo bs 0 ++ List.replicate 48 0) := by
        rw [hk64, fill_sched bs hbb] at hr1; exact hr1
      obtain ⟨w0, rfl⟩ : ∃ w0 : World, w0 = wr := ⟨_, rfl⟩
      obtain ⟨k0, hk0⟩ : ∃ k0 : Nat, k0 = k := ⟨_, rfl⟩
      rw [← hk0] at hlt ⊢
      clear hk0 hk64 hk hr1 hn
      go_wp2
      go_loopw [6] (fun i wr => ∃ k ii : Nat, k ≤ 48 ∧ ii ≤ 64 ∧ Hid (ii = 16 + k) ∧ i = .int .i64 (ii : Int) ∧ RowU 53 wr w.heap.size (List.replicate 64 0) ∧ RowU 53 wr (w.heap.size + 1) (schedTo bs k ++ List.replicate (48 - k) 0) ∧ Below w.heap.size w wr) (fun i _ => 64 - (intOf i).toNat)
      case atStart => exact ⟨0, 16, by omega, by omega, rfl, rfl, hr0, hrow0, hbw⟩
      case round =>
        clear hbw hrow0 hr0
        obtain ⟨k, ii, hk, hii, HI, rfl, hr0, hrow, hbw⟩ := hrel
        by_cases hklt : k < 48
        · have hlen := schedTo_length bs k
          have hall := schedTo_lt bs hbb k
          obtain ⟨p, hp⟩ : ∃ x, x = (schedTo bs k).getD k 0 := ⟨_, rfl⟩
          obtain ⟨x, hx⟩ : ∃ x, x = (schedTo bs k).getD (k + 1) 0 := ⟨_, rfl⟩
          obtain ⟨q, hq⟩ : ∃ x, x = (schedTo bs k).getD (k + 9) 0 := ⟨_, rfl⟩
          obtain ⟨y, hy⟩ : ∃ x, x = (schedTo bs k).getD (k + 14) 0 := ⟨_, rfl⟩
          have cp := hrow.cell k (by simp; omega)
          have cx := hrow.cell (k + 1) (by simp; omega)
          have cq := hrow.cell (k + 9) (by simp; omega)
          have cy := hrow.cell (k + 14) (by simp; omega)
          rw [sched_at bs k _ _ (by omega), ← hp] at cp
          rw [sched_at bs k _ _ (by omega), ← hx] at cx
          rw [sched_at bs k _ _ (by omega), ← hq] at cq
          rw [sched_at bs k _ _ (by omega), ← hy] at cy
          have lp : p < 4294967296 := by rw [hp]; exact getD_lt hall _
          have lx : x < 4294967296 := by rw [hx]; exact getD_lt hall _
          have lq : q < 4294967296 := by rw [hq]; exact getD_lt hall _
          have ly : y < 4294967296 := by rw [hy]; exact getD_lt hall _
          have hfz := hrow.frozen ii
          have hck := hrow.cell ii (by rw [HI.out]; simp; omega)
          generalize (schedTo bs k ++ List.replicate (48 - k) 0).getD ii 0 = old at hck
          have hi64 : ii < 64 := by rw [HI.out]; omega
          obtain ⟨m1, hm1⟩ : ∃ m, m = k + 1 := ⟨_, rfl⟩
          obtain ⟨m9, hm9⟩ : ∃ m, m = k + 9 := ⟨_, rfl⟩
          obtain ⟨m14, hm14⟩ : ∃ m, m = k + 14 := ⟨_, rfl⟩
          rw [← hm1] at cx
          rw [← hm9] at cq
          rw [← hm14] at cy
          have s16 : IntKind.i64.wrap ((ii : Int) - 16) = (k : Int) := by rw [IntKind.wrap_i64, HI.out]; omega
          have s15 : IntKind.i64.wrap ((ii : Int) - 15) = (m1 : Int) := by rw [IntKind.wrap_i64, HI.out, hm1]; omega
          have s7 : IntKind.i64.wrap ((ii : Int) - 7) = (m9 : Int) := by rw [IntKind.wrap_i64, HI.out, hm9]; omega
          have s2 : IntKind.i64.wrap ((ii : Int) - 2) = (m14 : Int) := by rw [IntKind.wrap_i64, HI.out, hm14]; omega
          have lk : (k : Int) < 64 := by omega
          have l1 : (m1 : Int) < 64 := by omega
          have l9 : (m9 : Int) < 64 := by omega
          have l14 : (m14 : Int) < 64 := by omega
          have li : (ii : Int) < 64 := by omega
          have n0 : ¬ ii = k := by rw [HI.out]; omega
          have n1 : ¬ ii = m1 := by rw [HI.out, hm1]; omega
          have n9 : ¬ ii = m9 := by rw [HI.out, hm9]; omega
          have n14 : ¬ ii = m14 := by rw [HI.out, hm14]; omega
          have n0' : ¬ k = ii := by rw [HI.out]; omega
          have n1' : ¬ m1 = ii := by rw [HI.out, hm1]; omega
          have n9' : ¬ m9 = ii := by rw [HI.out, hm9]; omega
          have n14' : ¬ m14 = ii := by rw [HI.out, hm14]; omega
          obtain ⟨v, hv⟩ : ∃ v : Nat, v = (p + sig0 x + q + sig1 y) % 4294967296 := ⟨_, rfl⟩
          have HV : Hid ((schedTo bs k ++ List.replicate (48 - k) 0).set ii v = schedTo bs (k + 1) ++ List.replicate (48 - (k + 1)) 0) := by
            show _ = _
            rw [HI.out]
            refine sched_set bs k hklt v ?_
            rw [hv, hp, hx, hq, hy]
          have HROW : Hid (RowU 53 wr (w.heap.size + 1) (schedTo bs k ++ List.replicate (48 - k) 0)) := hrow
          have H0 : Hid (RowU 53 wr w.heap.size (List.replicate 64 0)) := hr0
          have HB : Hid (Below w.heap.size w wr) := hbw
          have rsum : IntKind.u32.wrap (IntKind.u32.wrap (IntKind.u32.wrap ((p : Int) + ((sig0 x : Nat) : Int)) + (q : Int)) + ((sig1 y : Nat) : Int)) = (v : Int) := by
            rw [hv]
            simp only [IntKind.wrap_u32]
            omega
          clear hm1 hm9 hm14 hp hx hq hy hrow hr0 hbw hlen hall hv hlt
          go_wp2_with fail
          go_region_held2 (fun W => W.cell? ⟨w.heap.size + 1, k, none⟩ = some (.int .u32 (p : Int)) ∧ W.cell? ⟨w.heap.size + 1, m1, none⟩ = some (.int .u32 (x : Int)) ∧ W.cell? ⟨w.heap.size + 1, m9, none⟩ = some (.int .u32 (q : Int)) ∧ W.cell? ⟨w.heap.size + 1, m14, none⟩ = some (.int .u32 (y : Int))) (first | exact ⟨cp, cx, cq, cy⟩ | exact ⟨keepO cp n0, keepO cx n1, keepO cq n9, keepO cy n14⟩) (first | (go_at_call 41; refine (nearI _ _ lx).mono ?_; rintro e w1 ⟨rfl, rfl⟩) | (go_at_call 42; refine (farI _ _ ly).mono ?_; rintro e w1 ⟨rfl, rfl⟩))
          go_wp2
          go_roundw
          case rel =>
            refine ⟨k + 1, ii + 1, by omega, by omega, by show ii + 1 = 16 + (k + 1); have := HI.out; omega, by go_num, ?_, ?_, (HB.out.setCell (p := ⟨w.heap.size + 1, ii, none⟩) (by show w.heap.size ≤ w.heap.size + 1; omega) _).drew⟩
            · exact (H0.out.keep (Below.heap_setCell wr ⟨w.heap.size + 1, ii, none⟩ (.int .u32 (v : Int)) w.heap.size (by show w.heap.size ≠ w.heap.size + 1; omega))).drew
            · have := (HROW.out.set ii v).drew
              rw [HV.out] at this
              exact this
          case measure => simp [intOf]; omega
        · have hi64 : ¬ ii < 64 := by rw [HI.out]; omega
          have hfin : RowU 53 wr (w.heap.size + 1) (schedTo bs 48) := by
            have h48 : k = 48 := by omega
            rw [h48] at hrow
            simpa using hrow
          have hlen := schedTo_length bs 48
          clear hrow
          obtain ⟨L, hL⟩ : ∃ L, L = schedTo bs 48 := ⟨_, rfl⟩
          rw [← hL] at hfin hlen
          have HL : Hid (L = schedTo bs 48) := hL
          clear hL
          have hlen : L.length = 64 := hlen
          have hld := run_loadAt_mid (P := Tryd.prog) wr (w.heap.size + 1) 0 53 (uCells L).toList _ hfin.range Tryd.underlying53 rfl (by rw [size64, Array.length_toList, uCells_size, hlen])
          have hst := run_storeAt_mid (P := Tryd.prog) wr w.heap.size 0 53 (uCells L) (hr0.there _ (by rw [uCells_size, hlen]; simp)) (by rw [size64, uCells_size, hlen]) (uCells_one _)
          rw [Array.toArray_toList] at hld
          have hout : RowU 53 (wr.setCells w.heap.size 0 (uCells L).toList) w.heap.size L := hr0.over (by rw [hlen]; simp)
          have hbo : Below w.heap.size w (wr.setCells w.heap.size 0 (uCells L).toList) := Below.setCells hbw (Nat.le_refl _) _ 0
          have hlv := run_loadVar_mid (P := Tryd.prog) (wr.setCells w.heap.size 0 (uCells L).toList) w.heap.size 0 53 (uCells L).toList _ hout.range Tryd.underlying53 rfl (by rw [size64, Array.length_toList, uCells_size, hlen])
          rw [Array.toArray_toList] at hlv
          clear hout hld hst
          go_upto_region 11 with fail
          refine wp_region_list ?_
          refine wpList_load_mid rfl 53 _ rfl (w.heap.size + 1) 0 rfl (uCells L).toList _ hfin.range Tryd.underlying53 rfl (by rw [size64, Array.length_toList, uCells_size, hlen]) ?_
          rw [Array.toArray_toList]
          refine wpList_store_mid rfl 53 _ _ rfl w.heap.size 0 (uCells L) rfl rfl (hr0.there _ (by rw [uCells_size, hlen]; simp)) (by rw [size64, uCells_size, hlen]) (uCells_one _) ?_
          go_wp2
          rw [← HL.out]
          exact bodyPost_ret (v := .agg (uCells L)) (results_cell1 (p := 2) (b := w.heap.size) rfl _ _ _ rfl hlv) rfl ⟨rfl, hbo⟩

end Go.Proofs.YtnooadfgoccegaaDoor


set_option linter.unusedVariables false
namespace Go.Proofs.YtnooadfgoccegaaDoor
open Go.RowKit

theorem size8 : (Tryd.prog.info? 50).map (·.size) = some 8 := by kernel_rfl
theorem run_storeCellsU {P : Program} {T : TypeId} {w : World} {g : Nat} {m : List Nat} (h : RowU T w g m) (l : List Nat) (hl : l.length = m.length) :
    (storeCells ⟨g, 0, none⟩ (uCells l).toList).run P w = .ok () (w.setCells g 0 (uCells l).toList) := by
  have ht := h.there _ hl
  have := run_storeCells_cells (P := P) g 0 (uCells l).toList 0 w (fun j hj => by simpa using (ht j (by simpa [uCells_size] using hj)).1) (fun j hj => by simpa using (ht j (by simpa [uCells_size] using hj)).2)
    (fun v hv => (Array.all_eq_true_iff_forall_mem.1 (uCells_one l)) v (by simpa using hv))
  simpa using this
theorem zerosU8 : #[Value.int .u32 0, Value.int .u32 0, Value.int .u32 0, Value.int .u32 0, Value.int .u32 0, Value.int .u32 0, Value.int .u32 0, Value.int .u32 0] = uCells (List.replicate 8 0) := rfl
theorem sizeW : (Tryd.prog.info? 49).map (·.size) = some 1 := by kernel_rfl
theorem indexU (ws : List Nat) (hl : ws.length = 64) (k : Nat) (hk : k < 64) (w : World) : (Instr.index 53 (.agg (uCells ws)) (.int .i64 (k : Int))).run Tryd.prog w = .ok (.int .u32 ((ws.getD k 0 : Nat) : Int)) w := by
  have hat := uCells_at ws k (by omega)
  cases hq : Tryd.prog.info? 49 with
  | none => have := sizeW; simp [hq] at this
  | some i =>
    have hs : i.size = 1 := by have := sizeW; simpa [hq] using this
    simp [Instr.index, asIntOf, Sem.run_bind, run_underlying Tryd.underlying53, part, isAgg, run_underlying Tryd.underlying49, sizeOf, typeInfo, hq, hs, hat]
    intro h64; omega
/-- The four blocks that the call lays: the state, the words, the answer's place, the state at work. -/
def Laid4 (T8 T64 : TypeId) (n : Nat) (s : St) (ws : List Nat) (t : St) (w w' : World) : Prop :=
  RowU T8 w' n s.toL ∧ RowU T8 w' (n + 1 + 1) (List.replicate 8 0) ∧ RowU T8 w' (n + 1 + 1 + 1) t.toL ∧ Below n w w'
theorem laid4 (T8 T64 : TypeId) (s : St) (ws : List Nat) (w : World) :
    RowU T8 ((((w.alloc (.cells (uCells s.toL) T8)).alloc (.cells (uCells ws) T64)).alloc (.cells (uCells (List.replicate 8 0)) T8)).alloc (.cells (uCells (List.replicate 8 0)) T8)) (w.heap.size + 1 + 1 + 1) (List.replicate 8 0) ∧
    Laid4 T8 T64 w.heap.size s ws s w (((((w.alloc (.cells (uCells s.toL) T8)).alloc (.cells (uCells ws) T64)).alloc (.cells (uCells (List.replicate 8 0)) T8)).alloc (.cells (uCells (List.replicate 8 0)) T8)).setCells (w.heap.size + 1 + 1 + 1) 0 (uCells s.toL).toList) ∧
    RowU T64 (((((w.alloc (.cells (uCells s.toL) T8)).alloc (.cells (uCells ws) T64)).alloc (.cells (uCells (List.replicate 8 0)) T8)).alloc (.cells (uCells (List.replicate 8 0)) T8)).setCells (w.heap.size + 1 + 1 + 1) 0 (uCells s.toL).toList) (w.heap.size + 1) ws ∧
    RowU T8 (((w.alloc (.cells (uCells s.toL) T8)).alloc (.cells (uCells ws) T64)).alloc (.cells (uCells (List.replicate 8 0)) T8)) w.heap.size s.toL := by
  obtain ⟨w1, h1⟩ : ∃ x, x = w.alloc (.cells (uCells s.toL) T8) := ⟨_, rfl⟩
  have s1 : w1.heap.size = w.heap.size + 1 := by rw [h1]; simp
  have r1 : RowU T8 w1 w.heap.size s.toL := by rw [h1]; exact heap_alloc_new w _
  have b1 : Below w.heap.size w w1 := by rw [h1]; exact (Below.refl _ w).alloc (Nat.le_refl _) _
  rw [← h1]
  obtain ⟨w2, h2⟩ : ∃ x, x = w1.alloc (.cells (uCells ws) T64) := ⟨_, rfl⟩
  have s2 : w2.heap.size = w.heap.size + 1 + 1 := by rw [h2]; simp [s1]
  have r2 : RowU T64 w2 (w.heap.size + 1) ws := by rw [h2, ← s1]; exact heap_alloc_new w1 _
  have r21 : RowU T8 w2 w.heap.size s.toL := by rw [h2]; exact r1.keep (Below.heap_alloc _ _ _ (by omega))
  have b2 : Below w.heap.size w w2 := by rw [h2]; exact b1.alloc (by omega) _
  rw [← h2]
  obtain ⟨w3, h3⟩ : ∃ x, x = w2.alloc (.cells (uCells (List.replicate 8 0)) T8) := ⟨_, rfl⟩
  have s3 : w3.heap.size = w.heap.size + 1 + 1 + 1 := by rw [h3]; simp [s2]
  have r3 : RowU T8 w3 (w.heap.size + 1 + 1) (List.replicate 8 0) := by rw [h3, ← s2]; exact heap_alloc_new w2 _
  have r32 : RowU T64 w3 (w.heap.size + 1) ws := by rw [h3]; exact r2.keep (Below.heap_alloc _ _ _ (by omega))
  have r31 : RowU T8 w3 w.heap.size s.toL := by rw [h3]; exact r21.keep (Below.heap_alloc _ _ _ (by omega))
  have b3 : Below w.heap.size w w3 := by rw [h3]; exact b2.alloc (by omega) _
  rw [← h3]
  obtain ⟨w4, h4⟩ : ∃ x, x = w3.alloc (.cells (uCells (List.replicate 8 0)) T8) := ⟨_, rfl⟩
  have r4 : RowU T8 w4 (w.heap.size + 1 + 1 + 1) (List.replicate 8 0) := by rw [h4, ← s3]; exact heap_alloc_new w3 _
  have r43 : RowU T8 w4 (w.heap.size + 1 + 1) (List.replicate 8 0) := by rw [h4]; exact r3.keep (Below.heap_alloc _ _ _ (by omega))
  have r42 : RowU T64 w4 (w.heap.size + 1) ws := by rw [h4]; exact r32.keep (Below.heap_alloc _ _ _ (by omega))
  have r41 : RowU T8 w4 w.heap.size s.toL := by rw [h4]; exact r31.keep (Below.heap_alloc _ _ _ (by omega))
  have b4 : Below w.heap.size w w4 := by rw [h4]; exact b3.alloc (by omega) _
  rw [← h4]
  refine ⟨r4, ⟨r41.keep (heap_setCells_other _ _ _ _ _ (by omega)), r43.keep (heap_setCells_other _ _ _ _ _ (by omega)), r4.over (by simp [St.toL]), Below.setCells b4 (by omega) _ _⟩, r42.keep (heap_setCells_other _ _ _ _ _ (by omega)), r31⟩

theorem Rows3.set {T8 : TypeId} {n : Nat} {ls l lz : List Nat} {w wr : World} (h : RowU T8 wr n ls ∧ RowU T8 wr (n + 1 + 1) lz ∧ RowU T8 wr (n + 1 + 1 + 1) l ∧ Below n w wr) (i v : Nat) :
    RowU T8 (wr.setCell ⟨n + 1 + 1 + 1, i, none⟩ (.int .u32 (v : Int))) n ls ∧ RowU T8 (wr.setCell ⟨n + 1 + 1 + 1, i, none⟩ (.int .u32 (v : Int))) (n + 1 + 1) lz ∧ RowU T8 (wr.setCell ⟨n + 1 + 1 + 1, i, none⟩ (.int .u32 (v : Int))) (n + 1 + 1 + 1) (l.set i v) ∧ Below n w (wr.setCell ⟨n + 1 + 1 + 1, i, none⟩ (.int .u32 (v : Int))) :=
  ⟨h.1.keep (Below.heap_setCell _ _ _ _ (by show _ ≠ n + 1 + 1 + 1; omega)), h.2.1.keep (Below.heap_setCell _ _ _ _ (by show _ ≠ n + 1 + 1 + 1; omega)), h.2.2.1.set i v, h.2.2.2.setCell (p := ⟨n + 1 + 1 + 1, i, none⟩) (by show n ≤ n + 1 + 1 + 1; omega) _⟩
theorem Laid4.over {T8 T64 : TypeId} {n : Nat} {s t : St} {ws : List Nat} {w wr : World} (h : Laid4 T8 T64 n s ws t w wr) (v0 v1 v2 v3 v4 v5 v6 v7 : Nat) :
    Laid4 T8 T64 n s ws ⟨v0, v1, v2, v3, v4, v5, v6, v7⟩ w ((((((((wr.setCell ⟨n + 1 + 1 + 1, 0, none⟩ (.int .u32 (v0 : Int))).setCell ⟨n + 1 + 1 + 1, 1, none⟩ (.int .u32 (v1 : Int))).setCell ⟨n + 1 + 1 + 1, 2, none⟩ (.int .u32 (v2 : Int))).setCell ⟨n + 1 + 1 + 1, 3, none⟩ (.int .u32 (v3 : Int))).setCell ⟨n + 1 + 1 + 1, 4, none⟩ (.int .u32 (v4 : Int))).setCell ⟨n + 1 + 1 + 1, 5, none⟩ (.int .u32 (v5 : Int))).setCell ⟨n + 1 + 1 + 1, 6, none⟩ (.int .u32 (v6 : Int))).setCell ⟨n + 1 + 1 + 1, 7, none⟩ (.int .u32 (v7 : Int))).drew.drew := by
  have := Rows3.set (Rows3.set (Rows3.set (Rows3.set (Rows3.set (Rows3.set (Rows3.set (Rows3.set h 0 v0) 1 v1) 2 v2) 3 v3) 4 v4) 5 v5) 6 v6) 7 v7
  exact ⟨this.1.drew.drew, this.2.1.drew.drew, this.2.2.1.drew.drew, this.2.2.2.drew.drew⟩

def plusTo (s t : St) (k : Nat) : List Nat := (s.plus t).toL.take k ++ s.toL.drop k
theorem plusTo_length (s t : St) (k : Nat) (h : k ≤ 8) : (plusTo s t k).length = 8 := by
  simp [plusTo, St.toL]; omega
theorem plusTo_at (s t : St) (k : Nat) (h : k < 8) : (plusTo s t k).getD k 0 = s.toL.getD k 0 := by
  match k, h with
  | 0, _ | 1, _ | 2, _ | 3, _ | 4, _ | 5, _ | 6, _ | 7, _ => rfl
theorem plusTo_set (s t : St) (k : Nat) (h : k < 8) (v : Nat) (hv : v = (s.toL.getD k 0 + t.toL.getD k 0) % 4294967296) : (plusTo s t k).set k v = plusTo s t (k + 1) := by
  subst hv
  match k, h with
  | 0, _ | 1, _ | 2, _ | 3, _ | 4, _ | 5, _ | 6, _ | 7, _ => rfl

set_option maxHeartbeats 1000000 in
set_option maxRecDepth 100000 in
theorem nextI (ms ws : List Nat) (s : St) (hs : s.ok) (w : World) (hms : RowG w ms) (hml : ms.length = 64) (hmm : ∀ x ∈ ms, x < 4294967296) (hwl : ws.length = 64) (hww : ∀ x ∈ ws, x < 4294967296) :
    Calls Tryd.prog 32 #[.agg (uCells s.toL), .agg (uCells ws)] w fun e w' => e = .returned (.agg (uCells (s.plus (rounds ms ws s 64)).toL)) ∧ Below w.heap.size w w' := by
  have Z : Hid (_ ∧ _ ∧ _ ∧ _) := laid4 50 53 s ws w
  go_enter Tryd.func32, Tryd.ntmps32
  go_upto_region 1 with fail
  refine wp_region_list ?_
  refine wpList_load_mid rfl 50 _ rfl w.heap.size 0 rfl (uCells s.toL).toList _ ?_ Tryd.underlying50 rfl (by rw [size8, Array.length_toList, uCells_size]; rfl) ?_
  · exact Z.out.2.2.2.range
  rw [Array.toArray_toList]
  go_wp2
  obtain ⟨z1, z2, z3, z4⟩ := Z.out
  rw [zerosU8, run_storeCellsU z1 s.toL rfl]
  obtain ⟨W, hW⟩ : ∃ W, W = (((((w.alloc (.cells (uCells s.toL) 50)).alloc (.cells (uCells ws) 53)).alloc (.cells (uCells (List.replicate 8 0)) 50)).alloc (.cells (uCells (List.replicate 8 0)) 50)).setCells (w.heap.size + 1 + 1 + 1) 0 (uCells s.toL).toList) := ⟨_, rfl⟩
  rw [← hW] at z2 z3 ⊢
  clear hW z1 z4 Z
  have Hmm : Hid (∀ x ∈ ms, x < 4294967296) := hmm
  have Hww : Hid (∀ x ∈ ws, x < 4294967296) := hww
  have HZ : Hid (Laid4 50 53 w.heap.size s ws s w W) := z2
  clear hmm hww z2
  go_upto_region 2 with fail
  refine wp_region_list ?_
  refine wpList_load_mid rfl 53 _ rfl (w.heap.size + 1) 0 rfl (uCells ws).toList _ z3.range Tryd.underlying53 rfl (by rw [size64, Array.length_toList, uCells_size, hwl]) ?_
  rw [Array.toArray_toList]
  clear z3
  go_wp2
  go_loopw [13] (fun i wr => ∃ k : Nat, k ≤ 64 ∧ i = .int .i64 (k : Int) ∧ Hid (Laid4 50 53 w.heap.size s ws (rounds ms ws s k) w wr)) (fun i _ => 64 - (intOf i).toNat)
  case atStart => exact ⟨0, by omega, rfl, HZ⟩
  case round =>
    clear HZ
    obtain ⟨k, hk, rfl, HR⟩ := hrel
    by_cases hlt : k < 64
    · have hok := rounds_ok ms ws s hs k
      obtain ⟨t, ht⟩ : ∃ t, t = rounds ms ws s k := ⟨_, rfl⟩
      rw [← ht] at HR hok
      have HT : Hid (t = rounds ms ws s k) := ht
      clear ht
      obtain ⟨a, b, c, d, e, f, g, h⟩ := t
      obtain ⟨la, lb, lc, ld, le, lf, lg, lh⟩ := hok
      simp only at la lb lc ld le lf lg lh
      have hr := HR.out.2.2.1
      have c0 : wr.cell? ⟨w.heap.size + 1 + 1 + 1, 0, none⟩ = some (.int .u32 (a : Int)) := hr.cell 0 (by show _ < 8; decide)
      have c1 : wr.cell? ⟨w.heap.size + 1 + 1 + 1, 1, none⟩ = some (.int .u32 (b : Int)) := hr.cell 1 (by show _ < 8; decide)
      have c2 : wr.cell? ⟨w.heap.size + 1 + 1 + 1, 2, none⟩ = some (.int .u32 (c : Int)) := hr.cell 2 (by show _ < 8; decide)
      have c3 : wr.cell? ⟨w.heap.size + 1 + 1 + 1, 3, none⟩ = some (.int .u32 (d : Int)) := hr.cell 3 (by show _ < 8; decide)
      have c4 : wr.cell? ⟨w.heap.size + 1 + 1 + 1, 4, none⟩ = some (.int .u32 (e : Int)) := hr.cell 4 (by show _ < 8; decide)
      have c5 : wr.cell? ⟨w.heap.size + 1 + 1 + 1, 5, none⟩ = some (.int .u32 (f : Int)) := hr.cell 5 (by show _ < 8; decide)
      have c6 : wr.cell? ⟨w.heap.size + 1 + 1 + 1, 6, none⟩ = some (.int .u32 (g : Int)) := hr.cell 6 (by show _ < 8; decide)
      have c7 : wr.cell? ⟨w.heap.size + 1 + 1 + 1, 7, none⟩ = some (.int .u32 (h : Int)) := hr.cell 7 (by show _ < 8; decide)
      have f0 := hr.frozen 0
      have f1 := hr.frozen 1
      have f2 := hr.frozen 2
      have f3 := hr.frozen 3
      have f4 := hr.frozen 4
      have f5 := hr.frozen 5
      have f6 := hr.frozen 6
      have f7 := hr.frozen 7
      clear hr
      obtain ⟨m, hm⟩ : ∃ m, m = ms.getD k 0 := ⟨_, rfl⟩
      obtain ⟨x, hx⟩ : ∃ x, x = ws.getD k 0 := ⟨_, rfl⟩
      have lm : m < 4294967296 := by rw [hm]; exact getD_lt Hmm.out _
      have lx : x < 4294967296 := by rw [hx]; exact getD_lt Hww.out _
      have cm : wr.cell? ⟨0, k, none⟩ = some (.int .u32 (m : Int)) := by
        rw [HR.out.2.2.2.cell (p := ⟨0, k, none⟩) hms.lt, hm]
        exact hms.cell k (by omega)
      have cx : ∀ w : World, (Instr.index 53 (.agg (uCells ws)) (.int .i64 (k : Int))).run Tryd.prog w = .ok (.int .u32 (x : Int)) w := by intro w; rw [hx]; exact indexU ws hwl k hlt w
      have lk : (k : Int) < 64 := by omega
      obtain ⟨v1, hv1⟩ : ∃ v : Nat, v = (h + big1 e + chs e f g + m + x) % 4294967296 := ⟨_, rfl⟩
      obtain ⟨v2, hv2⟩ : ∃ v : Nat, v = (big0 a + maj a b c) % 4294967296 := ⟨_, rfl⟩
      obtain ⟨v3, hv3⟩ : ∃ v : Nat, v = (v1 + v2) % 4294967296 := ⟨_, rfl⟩
      obtain ⟨v4, hv4⟩ : ∃ v : Nat, v = (d + v1) % 4294967296 := ⟨_, rfl⟩
      have r1 : IntKind.u32.wrap (IntKind.u32.wrap (IntKind.u32.wrap (IntKind.u32.wrap ((h : Int) + ((big1 e : Nat) : Int)) + ((chs e f g : Nat) : Int)) + (m : Int)) + (x : Int)) = (v1 : Int) := by
        rw [hv1]; simp only [IntKind.wrap_u32]; omega
      have r2 : IntKind.u32.wrap (((big0 a : Nat) : Int) + ((maj a b c : Nat) : Int)) = (v2 : Int) := by
        rw [hv2]; simp only [IntKind.wrap_u32]; omega
      have r3 : IntKind.u32.wrap ((v1 : Int) + (v2 : Int)) = (v3 : Int) := by
        rw [hv3]; simp only [IntKind.wrap_u32]; omega
      have r4 : IntKind.u32.wrap ((d : Int) + (v1 : Int)) = (v4 : Int) := by
        rw [hv4]; simp only [IntKind.wrap_u32]; omega
      have HN : Hid ((⟨v3, a, b, c, v4, e, f, g⟩ : St) = rounds ms ws s (k + 1)) := by
        show _ = _
        rw [rounds, ← HT.out, St.step, ← hm, ← hx, hv3, hv4, hv1, hv2]
        simp only [St.mk.injEq, true_and, and_true]
        omega
      clear hv1 hv2 hv3 hv4 hm hx hms HT
      go_wp2_with fail
      go_region_held2 (fun W => W.cell? ⟨w.heap.size + 1 + 1 + 1, 7, none⟩ = some (.int .u32 (h : Int)) ∧ W.cell? ⟨w.heap.size + 1 + 1 + 1, 4, none⟩ = some (.int .u32 (e : Int)) ∧ W.cell? ⟨w.heap.size + 1 + 1 + 1, 5, none⟩ = some (.int .u32 (f : Int)) ∧ W.cell? ⟨w.heap.size + 1 + 1 + 1, 6, none⟩ = some (.int .u32 (g : Int)) ∧ W.cell? ⟨0, k, none⟩ = some (.int .u32 (m : Int))) (exact ⟨c7, c4, c5, c6, cm⟩) (first | (go_at_call 37; refine (fifthI _ _ le).mono ?_; rintro e w1 ⟨rfl, rfl⟩) | (go_at_call 38; refine (chooseI _ _ _ _ le lf lg).mono ?_; rintro e w1 ⟨rfl, rfl⟩))
      go_wp2_with fail
      go_region_held2 (fun W => W.cell? ⟨w.heap.size + 1 + 1 + 1, 0, none⟩ = some (.int .u32 (a : Int)) ∧ W.cell? ⟨w.heap.size + 1 + 1 + 1, 1, none⟩ = some (.int .u32 (b : Int)) ∧ W.cell? ⟨w.heap.size + 1 + 1 + 1, 2, none⟩ = some (.int .u32 (c : Int))) (exact ⟨c0, c1, c2⟩) (first | (go_at_call 39; refine (firstI _ _ la).mono ?_; rintro e w1 ⟨rfl, rfl⟩) | (go_at_call 40; refine (mostI _ _ _ _ la lb lc).mono ?_; rintro e w1 ⟨rfl, rfl⟩))
      go_wp2
      go_roundw
      case rel =>
        refine ⟨k + 1, by omega, by go_num, ?_⟩
        have := HR.out.over v3 a b c v4 e f g
        rw [HN.out] at this
        exact this
      case measure => simp [intOf]; omega
    · obtain ⟨t, ht⟩ : ∃ t, t = rounds ms ws s 64 := ⟨_, rfl⟩
      have hk64 : k = 64 := by omega
      rw [hk64, ← ht] at HR
      have HT : Hid (t = rounds ms ws s 64) := ht
      obtain ⟨k0, hk0⟩ : ∃ k0 : Nat, k0 = k := ⟨_, rfl⟩
      rw [← hk0] at hlt ⊢
      clear ht hk0 hk64 hk
      go_wp2
      go_loopw [69] (fun i wr => ∃ k : Nat, k ≤ 8 ∧ i = .int .i64 (k : Int) ∧ Hid (RowU 50 wr w.heap.size (plusTo s t k) ∧ RowU 50 wr (w.heap.size + 1 + 1) (List.replicate 8 0) ∧ RowU 50 wr (w.heap.size + 1 + 1 + 1) t.toL ∧ Below w.heap.size w wr)) (fun i _ => 8 - (intOf i).toNat)
      case atStart => exact ⟨0, by omega, rfl, HR.out⟩
      case round =>
        clear HR
        obtain ⟨k, hk, rfl, HR⟩ := hrel
        by_cases hk8 : k < 8
        · obtain ⟨x, hx⟩ : ∃ x, x = s.toL.getD k 0 := ⟨_, rfl⟩
          obtain ⟨y, hy⟩ : ∃ y, y = t.toL.getD k 0 := ⟨_, rfl⟩
          have cx : wr.cell? ⟨w.heap.size, k, none⟩ = some (.int .u32 (x : Int)) := by
            rw [hx, ← plusTo_at s t k hk8]; exact HR.out.1.cell k (by rw [plusTo_length _ _ _ hk]; exact hk8)
          have cy : wr.cell? ⟨w.heap.size + 1 + 1 + 1, k, none⟩ = some (.int .u32 (y : Int)) := by
            rw [hy]; exact HR.out.2.2.1.cell k (by show k < 8; exact hk8)
          have hfz := HR.out.1.frozen k
          obtain ⟨v, hv⟩ : ∃ v : Nat, v = (x + y) % 4294967296 := ⟨_, rfl⟩
          have rv : IntKind.u32.wrap ((x : Int) + (y : Int)) = (v : Int) := by
            rw [hv]; simp only [IntKind.wrap_u32]; omega
          have HV : Hid ((plusTo s t k).set k v = plusTo s t (k + 1)) := by
            show _ = _
            refine plusTo_set s t k hk8 v ?_
            rw [hv, hx, hy]
          have lk : (k : Int) < 8 := by omega
          clear hx hy hv hlt hk
          go_wp2
          go_region
          go_wp2
          go_roundw
          case rel =>
            refine ⟨k + 1, by omega, by go_num, ?_⟩
            have h1 := HR.out.1.set k v
            rw [HV.out] at h1
            exact ⟨h1, HR.out.2.1.keep (Below.heap_setCell _ _ _ _ (by show _ ≠ w.heap.size; omega)), HR.out.2.2.1.keep (Below.heap_setCell _ _ _ _ (by show _ ≠ w.heap.size; omega)), (HR.out.2.2.2.setCell (p := ⟨w.heap.size, k, none⟩) (Nat.le_refl _) _).drew⟩
          case measure => simp [intOf]; omega
        · have HF : Hid (RowU 50 wr w.heap.size (s.plus t).toL) := by
            show RowU _ _ _ _
            have := HR.out.1
            rw [show k = 8 from by omega] at this
            exact this
          obtain ⟨L, hL⟩ : ∃ L, L = (s.plus t).toL := ⟨_, rfl⟩
          have hlen : L.length = 8 := by rw [hL]; rfl
          rw [← hL] at HF
          have HL : Hid (L = (s.plus (rounds ms ws s 64)).toL) := by show _ = _; rw [← HT.out]; exact hL
          have hout : RowU 50 (wr.setCells (w.heap.size + 1 + 1) 0 (uCells L).toList) (w.heap.size + 1 + 1) L := HR.out.2.1.over (by rw [hlen]; rfl)
          have hbo : Below w.heap.size w (wr.setCells (w.heap.size + 1 + 1) 0 (uCells L).toList) := Below.setCells HR.out.2.2.2 (by omega) _ 0
          have hlv := run_loadVar_mid (P := Tryd.prog) (wr.setCells (w.heap.size + 1 + 1) 0 (uCells L).toList) (w.heap.size + 1 + 1) 0 50 (uCells L).toList _ hout.range Tryd.underlying50 rfl (by rw [size8, Array.length_toList, uCells_size, hlen])
          rw [Array.toArray_toList] at hlv
          have Hlv : Hid (_ = _) := hlv
          have Hbo : Hid (Below w.heap.size w (wr.setCells (w.heap.size + 1 + 1) 0 (uCells L).toList)) := hbo
          clear hL hlv hout hbo
          go_upto_region 14 with fail
          refine wp_region_list ?_
          refine wpList_load_mid rfl 50 _ rfl w.heap.size 0 rfl (uCells L).toList _ HF.out.range Tryd.underlying50 rfl (by rw [size8, Array.length_toList, uCells_size, hlen]) ?_
          rw [Array.toArray_toList]
          refine wpList_store_mid rfl 50 _ _ rfl (w.heap.size + 1 + 1) 0 (uCells L) rfl rfl (HR.out.2.1.there _ (by rw [uCells_size, hlen]; simp)) (by rw [size8, uCells_size, hlen]) (uCells_one _) ?_
          go_wp2
          rw [← HL.out]
          exact bodyPost_ret (v := .agg (uCells L)) (results_cell1 (p := 4) (b := w.heap.size + 1 + 1) rfl _ _ _ rfl Hlv) rfl ⟨rfl, Hbo.out⟩

end Go.Proofs.YtnooadfgoccegaaDoor

set_option linter.unusedVariables false
namespace Go.Proofs.YtnooadfgoccegaaDoor
open Go.RowKit

theorem fig_digit (x j : Nat) (hx : x < 4294967296) (hj : j < 8) : x * 16 ^ j % 4294967296 / 268435456 = x / 2 ^ (4 * (7 - j)) % 16 := by
  match j, hj with
  | 0, _ => simp; omega
  | 1, _ => simp; omega
  | 2, _ => simp; omega
  | 3, _ => simp; omega
  | 4, _ => simp; omega
  | 5, _ => simp; omega
  | 6, _ => simp; omega
  | 7, _ => simp; omega

set_option maxHeartbeats 1000000 in
set_option maxRecDepth 100000 in
theorem figuresI (x : Nat) (w : World) (hx : x < 4294967296) :
    Calls Tryd.prog 34 #[.int .u32 x] w fun e w' => e = .returned (.string ⟨(hexOf x).toArray⟩) ∧ Below w.heap.size w w' := by
  go_enter Tryd.func34, Tryd.ntmps34
  go_wp2
  go_loopw [0, 4] (fun v i wr => ∃ j y : Nat, j ≤ 8 ∧ i = .int .i64 j ∧ v = .int .u32 y ∧ Hid (y = x * 16 ^ j % 4294967296) ∧ Lib.IsBuilderF 64 5 w.heap.size w.heap.size (Lib.byteCells ((hexOf x).take j)) wr ∧ Below w.heap.size w wr) (fun _ i _ => 8 - (intOf i).toNat)
  case atStart =>
    exact ⟨0, x, by omega, rfl, rfl, by show x = _; simp; omega, Lib.IsBuilderF.of (Lib.fresh_isBuilder 64 5 w), (Below.refl _ w).alloc (Nat.le_refl _) _⟩
  case round =>
    obtain ⟨j, y, hj, rfl, rfl, hy, hI, hbw⟩ := hrel
    have hsz := hbw.size
    have hyl : y < 4294967296 := by rw [hy.out]; exact Nat.mod_lt _ (by decide)
    by_cases hlt : j < 8
    · obtain ⟨d, hd⟩ : ∃ d : Nat, d = y / 268435456 := ⟨_, rfl⟩
      have rd : (y : Int) / 268435456 = (d : Int) := by rw [hd]; simp
      have hd16 : d < 16 := by rw [hd]; omega
      have HD : Hid (d = x / 2 ^ (4 * (7 - j)) % 16) := by show d = _; rw [hd, hy.out]; exact fig_digit x j hx hlt
      have HY : Hid (y * 16 % 4294967296 = x * 16 ^ (j + 1) % 4294967296) := by
        show _ = _
        rw [hy.out, Nat.pow_succ, ← Nat.mul_assoc, Nat.mod_mul_mod]
      clear hd
      go_wp2_with fail
      refine (writeByte _ _ _ _ _ hI (by rw [Lib.byteCells_length]; simp; omega) hsz).mono ?_
      rintro e w1 ⟨rfl, h1, b1, k1⟩
      have h2 : Lib.IsBuilderF 64 5 w.heap.size w.heap.size (Lib.byteCells ((hexOf x).take (j + 1))) w1 := by
        rw [hexOf_take x j hlt, ← HD.out, ← figs_at d hd16 (by show d < 16; exact hd16), Lib.byteCells_append]
        exact h1
      clear h1
      go_wp2
      go_roundw
      case rel => exact ⟨j + 1, y * 16 % 4294967296, by omega, by go_num, by go_num, HY, h2, hbw.trans b1⟩
      case measure => simp [intOf]; omega
    · have hl8 : (hexOf x).take j = hexOf x := List.take_of_length_le (by simp [hexOf]; omega)
      rw [hl8] at hI
      clear hl8
      go_wp2_with fail
      refine (Tryd.Builder_String_any_k _ _ _ _ hI hsz).mono ?_
      rintro e w2 ⟨rfl, _, b2, _⟩
      go_wp2
      go_ret
      exact ⟨rfl, hbw.trans b2⟩

end Go.Proofs.YtnooadfgoccegaaDoor

namespace Go.Proofs.YtnooadfgoccegaaDoor
open Go.RowKit

theorem endB8 (A : List Nat) (n : Nat) : endB (A ++ [0, 0, 0, 0, 0, 0, 0, 0]) n 8 = A ++ [n / 2 ^ 56 % 256, n / 2 ^ 48 % 256, n / 2 ^ 40 % 256, n / 2 ^ 32 % 256, n / 2 ^ 24 % 256, n / 2 ^ 16 % 256, n / 2 ^ 8 % 256, n / 2 ^ 0 % 256] := by
  have hl : (A ++ [0, 0, 0, 0, 0, 0, 0, 0]).length = A.length + 8 := by simp
  simp only [endB, hl]
  rw [show A.length + 8 - 1 - 0 = A.length + 7 from by omega, show A.length + 8 - 1 - 1 = A.length + 6 from by omega, show A.length + 8 - 1 - 2 = A.length + 5 from by omega, show A.length + 8 - 1 - 3 = A.length + 4 from by omega,
    show A.length + 8 - 1 - 4 = A.length + 3 from by omega, show A.length + 8 - 1 - 5 = A.length + 2 from by omega, show A.length + 8 - 1 - 6 = A.length + 1 from by omega, show A.length + 8 - 1 - 7 = A.length + 0 from by omega]
  repeat rw [List.set_append_right _ _ (by omega)]
  simp only [Nat.add_sub_cancel_left]
  rfl
theorem ofNat_mod (x : Nat) : (UInt8.ofNat (x % 256)).toNat = x % 256 := by
  simp
theorem padN_padB (t : List UInt8) : padN t = (padB t).map (·.toNat) := by
  have hz : padLen t.length - t.length - 1 = padZ t.length + 8 := by simp only [padZ, padLen]; omega
  have hr : List.replicate (padZ t.length + 8) (0 : Nat) = List.replicate (padZ t.length) 0 ++ [0, 0, 0, 0, 0, 0, 0, 0] := by
    rw [← List.replicate_append_replicate]; rfl
  rw [padN, hz, hr, show t.map (·.toNat) ++ 128 :: (List.replicate (padZ t.length) 0 ++ [0, 0, 0, 0, 0, 0, 0, 0]) = (t.map (·.toNat) ++ 128 :: List.replicate (padZ t.length) 0) ++ [0, 0, 0, 0, 0, 0, 0, 0] from by simp, endB8]
  simp only [padB, List.map_append, List.map_cons, List.map_replicate, lenB]
  congr 1
  simp only [List.map_map]
  show _ = List.map _ [0, 1, 2, 3, 4, 5, 6, 7]
  simp only [List.map_cons, List.map_nil, Function.comp, ofNat_mod]

end Go.Proofs.YtnooadfgoccegaaDoor

set_option linter.unusedVariables false
namespace Go.Proofs.YtnooadfgoccegaaDoor
open Go.RowKit

theorem sha0_cells : uCells sha0.toL = #[Value.int .u32 1779033703, Value.int .u32 3144134277, Value.int .u32 1013904242, Value.int .u32 2773480762, Value.int .u32 1359893119, Value.int .u32 2600822924, Value.int .u32 528734635, Value.int .u32 1541459225] := rfl
theorem shaK_len : shaK.length = 64 := rfl
theorem loadU8 (l : List Nat) (hl : l.length = 8) (g : Nat) (w : World) (h : RowU 50 w g l) : (Instr.loadAt 50 (.pointer (some ⟨g, 0, none⟩))).run Tryd.prog w = .ok (.agg (uCells l)) w := by
  have := run_loadAt_mid (P := Tryd.prog) w g 0 50 (uCells l).toList _ h.range Tryd.underlying50 rfl (by rw [size8, Array.length_toList, uCells_size, hl])
  rw [Array.toArray_toList] at this
  exact this
theorem storeU8 (l m : List Nat) (hl : l.length = 8) (hm : m.length = 8) (g : Nat) (w : World) (h : RowU 50 w g m) : (Instr.storeAt 50 (.pointer (some ⟨g, 0, none⟩)) (.agg (uCells l))).run Tryd.prog w = .ok () (w.setCells g 0 (uCells l).toList) :=
  run_storeAt_mid (P := Tryd.prog) w g 0 50 (uCells l) (h.there _ (by rw [uCells_size, hl, hm])) (by rw [size8, uCells_size, hl]) (uCells_one _)

theorem scheduleI2 (bs : List Nat) (g o cap : Nat) (w : World) (hn : ∀ i, i < bs.length → w.cell? ⟨g, o + i, none⟩ = some (.int .u8 ((bs.getD i 0 : Nat) : Int))) (hl : bs.length = 64) (hbb : ∀ x ∈ bs, x < 256) (hg : g < w.heap.size) :
    Calls Tryd.prog 33 #[.slice (some ⟨g, o, none⟩) 64 cap] w fun e w' => ∃ ws, e = .returned (.agg (uCells ws)) ∧ Hid (ws = schedTo bs 48) ∧ Hid (Below w.heap.size w w') :=
  (scheduleI bs g o cap w hn hl hbb hg).mono fun e w' h => ⟨_, h.1, rfl, h.2⟩
theorem nextI2 (bs : List Nat) (hbb : ∀ x ∈ bs, x < 256) (ws : List Nat) (hws : ws = schedTo bs 48) (s : St) (hs : s.ok) (w : World) (hms : RowG w shaK) :
    Calls Tryd.prog 32 #[.agg (uCells s.toL), .agg (uCells ws)] w fun e w' => ∃ l, e = .returned (.agg (uCells l)) ∧ Hid (l = (mix shaK s bs).toL) ∧ Hid (Below w.heap.size w w') := by
  have h1 := schedTo_length bs 48
  have h2 := schedTo_lt bs hbb 48
  have h3 : mix shaK s bs = s.plus (rounds shaK (schedTo bs 48) s 64) := rfl
  rw [← hws] at h1 h2 h3
  exact (nextI shaK ws s hs w hms shaK_len shaK_ok h1 h2).mono fun e w' h => ⟨_, h.1, by rw [h3]; rfl, h.2⟩

theorem toL_len (s : St) : s.toL.length = 8 := rfl
theorem cells8 {T : TypeId} {w : World} {G a b c d e f g h : Nat} (H : RowU T w G (St.toL ⟨a, b, c, d, e, f, g, h⟩)) : w.cell? ⟨G, 0, none⟩ = some (.int .u32 (a : Int)) ∧ w.cell? ⟨G, 1, none⟩ = some (.int .u32 (b : Int)) ∧ w.cell? ⟨G, 2, none⟩ = some (.int .u32 (c : Int)) ∧ w.cell? ⟨G, 3, none⟩ = some (.int .u32 (d : Int)) ∧ w.cell? ⟨G, 4, none⟩ = some (.int .u32 (e : Int)) ∧ w.cell? ⟨G, 5, none⟩ = some (.int .u32 (f : Int)) ∧ w.cell? ⟨G, 6, none⟩ = some (.int .u32 (g : Int)) ∧ w.cell? ⟨G, 7, none⟩ = some (.int .u32 (h : Int)) :=
  ⟨H.cell 0 (by show _ < 8; decide), H.cell 1 (by show _ < 8; decide), H.cell 2 (by show _ < 8; decide), H.cell 3 (by show _ < 8; decide), H.cell 4 (by show _ < 8; decide), H.cell 5 (by show _ < 8; decide), H.cell 6 (by show _ < 8; decide), H.cell 7 (by show _ < 8; decide)⟩
theorem nextI3 (bs : List Nat) (hbb : ∀ x ∈ bs, x < 256) (ws : List Nat) (hws : ws = schedTo bs 48) (a b c d e f g h : Nat) (hs : (⟨a, b, c, d, e, f, g, h⟩ : St).ok) (w : World) (hms : RowG w shaK) :
    Calls Tryd.prog 32 #[.agg #[.int .u32 (a : Int), .int .u32 (b : Int), .int .u32 (c : Int), .int .u32 (d : Int), .int .u32 (e : Int), .int .u32 (f : Int), .int .u32 (g : Int), .int .u32 (h : Int)], .agg (uCells ws)] w fun e' w' => ∃ l, e' = .returned (.agg (uCells l)) ∧ Hid (l = (mix shaK ⟨a, b, c, d, e, f, g, h⟩ bs).toL) ∧ Hid (Below w.heap.size w w') :=
  nextI2 bs hbb ws hws ⟨a, b, c, d, e, f, g, h⟩ hs w hms

set_option maxHeartbeats 1000000 in
set_option maxRecDepth 100000 in
theorem implSum (s : ByteArray) (w : World) (hs : s.size ≤ 1073741824) (hK : RowG w shaK) :
    Calls Tryd.prog 27 #[.string s] w fun e w' => e = .returned (.string ⟨(sumB s.data.toList).toArray⟩) ∧ Below w.heap.size w w' := by
  obtain ⟨W, hW⟩ : ∃ W, W = w.alloc (.cells (uCells sha0.toL) 50) := ⟨_, rfl⟩
  have HZ : Hid (RowU 50 W w.heap.size sha0.toL ∧ W.heap.size = w.heap.size + 1 ∧ Below w.heap.size w W) := by
    refine ⟨?_, ?_, ?_⟩
    · rw [hW]; exact heap_alloc_new w _
    · rw [hW]; simp
    · rw [hW]; exact (Below.refl _ w).alloc (Nat.le_refl _) _
  have HW : Hid (W = w.alloc (.cells (uCells sha0.toL) 50)) := hW
  have HK : Hid (RowG w shaK) := hK
  clear hW hK
  go_enter Tryd.func27, Tryd.ntmps27
  go_wp2_with fail
  rw [← sha0_cells, ← HW.out]
  refine (paddedI s _ hs).mono ?_
  rintro e w1 ⟨g, cap, rfl, hrow, b1⟩
  have hg := hrow.lt
  have hcells : ∀ i, i < padLen s.size → w1.cell? ⟨g, i, none⟩ = some (.int .u8 (((padN s.data.toList).getD i 0 : Nat) : Int)) := by
    intro i hi
    have hlB : i < (padB s.data.toList).length := by rw [padB_length]; simpa using hi
    rw [hrow.cells i hlB, padN_padB]
    simp [List.getElem?_eq_getElem hlB]
  have hcap : padLen s.size ≤ cap ∧ cap ≤ maxLen := by
    obtain ⟨g', cap', cur, fz, hv, _, _, _, h1, h2, _⟩ := hrow
    simp only [Value.slice.injEq, Option.some.injEq, Addr.mk.injEq, and_true] at hv
    obtain ⟨_, _, rfl⟩ := hv
    rw [padB_length] at h1
    exact ⟨by simpa using h1, h2⟩
  have hlen := padN_length s.data.toList
  rw [show s.data.toList.length = s.size from by simp] at hlen
  have hpl := padN_lt s.data.toList
  have HSH : Hid (sha s.data.toList = mixTo (padN s.data.toList) (padLen s.size / 64)) := by
    show _ = _
    rw [sha, show s.data.toList.length = s.size from by simp]
  generalize padN s.data.toList = P at hcells hlen hpl HSH
  obtain ⟨L, hL⟩ : ∃ L, L = padLen s.size := ⟨_, rfl⟩
  have hL2 : L ≤ s.size + 72 := by rw [hL]; unfold padLen; omega
  have HLm : Hid (L % 64 = 0) := by show _ = _; rw [hL]; exact padLen_mod _
  rw [← hL] at hcells hcap hlen HSH ⊢
  have HL : Hid (P.length = L) := hlen
  have HC : Hid (∀ i, i < L → w1.cell? ⟨g, i, none⟩ = some (.int .u8 ((P.getD i 0 : Nat) : Int))) := hcells
  have HG : Hid (w.heap.size + 1 ≤ g ∧ g < w1.heap.size) := by
    refine ⟨?_, hg.2⟩
    have := hg.1
    rw [HZ.out.2.1] at this
    exact this
  have hw0 : 0 < w.heap.size := HK.out.lt
  have HB : Hid (RowU 50 w1 w.heap.size sha0.toL ∧ RowG w1 shaK ∧ Below w.heap.size w w1) := by
    have hb := HZ.out.2.2.trans (b1.mono (by rw [HZ.out.2.1]; omega))
    exact ⟨HZ.out.1.below b1 (by rw [HZ.out.2.1]; omega), HK.out.below hb hw0, hb⟩
  have hc2 := hcap.1
  have hc3 : cap ≤ 9223372036854775807 := by have := hcap.2; simp only [maxLen] at this; omega
  clear hlen hL hg hcells hrow b1 HZ HW hcap
  go_wp2
  go_loopw [5] (fun i wr => ∃ (j m : Nat), m ≤ L ∧ i = .int .i64 (m : Int) ∧ Hid (m = 64 * j) ∧ Hid (RowU 50 wr w.heap.size (mixTo P j).toL) ∧ Hid (RowG wr shaK) ∧ Hid (∀ i, i < L → wr.cell? ⟨g, i, none⟩ = some (.int .u8 ((P.getD i 0 : Nat) : Int))) ∧ Hid (g < wr.heap.size) ∧ Hid (Below w.heap.size w wr)) (fun i _ => L - (intOf i).toNat)
  case atStart => exact ⟨0, 0, by omega, rfl, rfl, HB.out.1, HB.out.2.1, HC, HG.out.2, HB.out.2.2⟩
  case round =>
    obtain ⟨j, m, hm, rfl, HM, HR, HK1, HC1, HG1, HB1⟩ := hrel
    have hm64 : m < L → m + 64 ≤ L := by have h1 := HLm.out; have h2 := HM.out; omega
    by_cases hlt : m < L
    · have hm2 := hm64 hlt
      have hsl : ((P.drop m).take 64).length = 64 := by simp [HL.out]; omega
      have hsb : ∀ x ∈ (P.drop m).take 64, x < 256 := fun x hx => hpl x (List.mem_of_mem_drop (List.mem_of_mem_take hx))
      have HNX : Hid (mixTo P (j + 1) = mix shaK (mixTo P j) ((P.drop m).take 64)) := by show _ = _; rw [mixTo, ← HM.out]
      have HN : Hid (∀ i, i < ((P.drop m).take 64).length → wr.cell? ⟨g, m + i, none⟩ = some (.int .u8 ((((P.drop m).take 64).getD i 0 : Nat) : Int))) := by
        intro i hi
        rw [hsl] at hi
        rw [HC1.out (m + i) (by omega)]
        simp [hi]
      generalize (P.drop m).take 64 = bs at HN hsl hsb HNX
      have Hsb : Hid (∀ x ∈ bs, x < 256) := hsb
      obtain ⟨m2, hm2e⟩ : ∃ m2 : Nat, m2 = m + 64 := ⟨_, rfl⟩
      have lw : IntKind.i64.wrap ((m : Int) + 64) = (m2 : Int) := by rw [IntKind.wrap_i64, hm2e]; omega
      have lm0 : (0 : Int) ≤ (m : Int) := by omega
      have lm1 : (m : Int) ≤ (m2 : Int) := by omega
      have lm2 : (m2 : Int) ≤ (cap : Int) := by omega
      have lm3 : (0 : Int) ≤ (m2 : Int) := by omega
      have ld1 : m2 - m = 64 := by omega
      have lne : ¬ cap = m := by omega
      have ld2 : ((m2 : Int) - (m : Int)).toNat = 64 := by omega
      have ld3 : (m2 : Int) - (m : Int) = 64 := by omega
      have HM2 : Hid (m2 = m + 64) := hm2e
      clear hm2e
      clear hm64 hsb
      have hmo := mixTo_ok P j
      generalize mixTo P j = st at HR HNX hmo
      have hwlt : w.heap.size < wr.heap.size := HR.out.lt
      have hw0lt : 0 < wr.heap.size := by omega
      obtain ⟨a, b, c, d, e, f, gg, h⟩ := st
      have Hok : Hid ((⟨a, b, c, d, e, f, gg, h⟩ : St).ok) := hmo
      obtain ⟨c0, c1, c2, c3, c4, c5, c6, c7⟩ := cells8 HR.out
      clear hmo
      go_wp2_with fail
      go_region_with (first | (go_at_call 33; refine (scheduleI2 bs g m _ _ ?_ hsl Hsb.out ?_).mono ?_; exact HN.out; exact HG1.out; rintro e w2 ⟨ws, rfl, HWS, b2⟩; have hr2 : Hid (RowU 50 w2 w.heap.size (St.toL ⟨a, b, c, d, e, f, gg, h⟩)) := HR.out.drew.below b2.out hwlt; have hk2 : Hid (RowG w2 shaK) := HK1.out.drew.below b2.out hw0lt; obtain ⟨d0, d1, d2, d3, d4, d5, d6, d7⟩ := cells8 hr2.out) | (go_at_call 32; refine (nextI3 bs Hsb.out ws HWS.out a b c d e f gg h Hok.out _ ?_).mono ?_; exact hk2.out; rintro e w3 ⟨l3, rfl, HL3, b3⟩; have hr3 : Hid (RowU 50 w3 w.heap.size (St.toL ⟨a, b, c, d, e, f, gg, h⟩)) := hr2.out.below b3.out hr2.out.lt; have hk3 : Hid (RowG w3 shaK) := hk2.out.below b3.out hk2.out.lt; have hsz : (uCells l3).size = 8 := (by rw [uCells_size, HL3.out]; exact toL_len _); have hst := run_storeCellsU (P := Tryd.prog) hr3.out l3 (by rw [HL3.out, toL_len, toL_len])))
      all_goals
        go_wp2
        go_roundw
        case rel =>
          have hbb : Below w.heap.size w w3 := (HB1.out.drew.trans (b2.out.mono (Nat.le_of_lt hwlt))).trans (b3.out.mono (Nat.le_of_lt hr2.out.lt))
          have hg3 : g < w3.heap.size := Nat.lt_of_lt_of_le HG1.out (Nat.le_trans b2.out.size b3.out.size)
          have hg2 : g < w2.heap.size := Nat.lt_of_lt_of_le HG1.out b2.out.size
          refine ⟨j + 1, m + 64, by omega, by go_num, ?_, ?_, ?_, ?_, ?_, ?_⟩
          · show m + 64 = 64 * (j + 1)
            have := HM.out
            omega
          · show RowU _ _ _ _
            rw [HNX.out, ← HL3.out]
            exact hr3.out.over (by rw [HL3.out, toL_len, toL_len])
          · exact hk3.out.keep (heap_setCells_other _ _ _ _ _ (by omega))
          · intro i hi
            rw [World.cell?_setCells_out _ _ _ _ _ (fun h1 _ => absurd h1 (by have := HG.out.1; show ¬ g = w.heap.size; omega))]
            rw [b3.out.cell (p := ⟨g, i, none⟩) hg2, b2.out.cell (p := ⟨g, i, none⟩) HG1.out]
            exact HC1.out i hi
          · exact Nat.lt_of_lt_of_le hg3 (Below.setCells (Below.refl w.heap.size w3) (Nat.le_refl _) _ _).size
          · exact Below.setCells hbb (Nat.le_refl _) _ _
        case measure => simp [intOf]; omega
    · have HJ : Hid (j = L / 64) := by show j = L / 64; have h1 := HLm.out; have h2 := HM.out; omega
      have HSB : Hid (sumB s.data.toList = hexOf (mixTo P j).a ++ hexOf (mixTo P j).b) := by
        show _ = _
        rw [sumB, HSH.out, ← HJ.out]
      have hok := mixTo_ok P j
      generalize mixTo P j = t at HR hok HSB
      have c0 : wr.cell? ⟨w.heap.size, 0, none⟩ = some (.int .u32 (t.a : Int)) := HR.out.cell 0 (by simp [St.toL])
      have c1 : wr.cell? ⟨w.heap.size, 1, none⟩ = some (.int .u32 (t.b : Int)) := HR.out.cell 1 (by simp [St.toL])
      have hg := HR.out.lt
      have la := hok.1
      have lb := hok.2.1
      have hl8 : ∀ x, (hexOf x).length = 8 := fun x => by simp [hexOf]
      clear hm64 hok
      go_wp2_with fail
      go_region_with (first | (go_at_call_of 34 (Value.int .u32 (t.a : Int)); refine (figuresI _ _ la).mono ?_; rintro e w2 ⟨rfl, b2⟩; have d1 : w2.cell? ⟨w.heap.size, 1, none⟩ = some (.int .u32 (t.b : Int)) := (b2.cell (p := ⟨w.heap.size, 1, none⟩) hg).trans c1) | (go_at_call_of 34 (Value.int .u32 (t.b : Int)); refine (figuresI _ _ lb).mono ?_; rintro e w3 ⟨rfl, b3⟩))
      all_goals
        go_wp2
        go_ret
        rw [HSB.out]
        have hcat : (⟨(hexOf t.a).toArray⟩ : ByteArray) ++ ⟨(hexOf t.b).toArray⟩ = ⟨(hexOf t.a ++ hexOf t.b).toArray⟩ := by
          apply ByteArray.ext; simp
        rw [← hcat]
        have b12 := HB1.out.trans (((Below.drew (Below.refl _ wr)).trans b2).mono HB1.out.size)
        exact ⟨rfl, b12.trans (b3.mono b12.size)⟩

end Go.Proofs.YtnooadfgoccegaaDoor

set_option linter.unusedVariables false
namespace Go.Proofs.YtnooadfgoccegaaDoor
open Go.RowKit

set_option maxHeartbeats 1000000 in
set_option maxRecDepth 100000 in
theorem implRootItem (z : ByteArray) (w : World) (hz : z.size ≤ 1048576) (hK : RowG w shaK) :
    Calls Tryd.prog 17 #[.string z] w fun e w' => e = .returned (.string (rootItemB z)) ∧ Below w.heap.size w w' := by
  have hsum := implSum ((⟨#[105, 116, 101, 109, 32]⟩ : ByteArray) ++ z) w (by
    simp only [ByteArray.size_append]
    have e1 : (⟨#[105, 116, 101, 109, 32]⟩ : ByteArray).size = 5 := rfl
    omega) hK
  have et : ((⟨#[105, 116, 101, 109, 32]⟩ : ByteArray) ++ z).data.toList = [105, 116, 101, 109, 32] ++ z.data.toList := by simp
  rw [et] at hsum
  have er : (⟨(sumB ([105, 116, 101, 109, 32] ++ z.data.toList)).toArray⟩ : ByteArray) = rootItemB z := rfl
  rw [er] at hsum
  generalize rootItemB z = rz at hsum
  clear et er hK
  go_enter Tryd.func17, Tryd.ntmps17
  go_wp2_with fail
  refine hsum.mono ?_
  rintro e w1 ⟨rfl, b1⟩
  go_wp2_with fail
  go_ret
  exact ⟨rfl, b1⟩

set_option maxHeartbeats 1000000 in
set_option maxRecDepth 100000 in
theorem implRootBoth (a b : ByteArray) (w : World) (ha : a.size = 16) (hb : b.size = 16) (hK : RowG w shaK) :
    Calls Tryd.prog 20 #[.string a, .string b] w fun e w' => e = .returned (.string (bothB a b)) ∧ Below w.heap.size w w' := by
  have hsum := implSum ((⟨#[98, 111, 116, 104, 32]⟩ : ByteArray) ++ a ++ (⟨#[32]⟩ : ByteArray) ++ b) w (by
    simp only [ByteArray.size_append]
    have e1 : (⟨#[98, 111, 116, 104, 32]⟩ : ByteArray).size = 5 := rfl
    have e2 : (⟨#[32]⟩ : ByteArray).size = 1 := rfl
    omega) hK
  have et : ((⟨#[98, 111, 116, 104, 32]⟩ : ByteArray) ++ a ++ (⟨#[32]⟩ : ByteArray) ++ b).data.toList = [98, 111, 116, 104, 32] ++ a.data.toList ++ [32] ++ b.data.toList := by simp
  rw [et] at hsum
  have er : (⟨(sumB ([98, 111, 116, 104, 32] ++ a.data.toList ++ [32] ++ b.data.toList)).toArray⟩ : ByteArray) = bothB a b := rfl
  rw [er] at hsum
  generalize bothB a b = rz at hsum
  clear et er hK
  go_enter Tryd.func20, Tryd.ntmps20
  go_wp2_with fail
  refine hsum.mono ?_
  rintro e w1 ⟨rfl, b1⟩
  go_wp2_with fail
  go_ret
  exact ⟨rfl, b1⟩

theorem drop_news {w : World} {g : Nat} {ss : List ByteArray} (h : AtS w g ss) (k r off : Nat) (hk : k + r = ss.length) (ho : 0 < r → off = k) : ∀ j u, ((ss.drop k).map Value.string)[j]? = some u → w.cell? ((⟨g, off, none⟩ : Addr).add j) = some u := by
  intro j u hu
  have hj : j < r := by
    have := (List.getElem?_eq_some_iff.1 hu).1
    simp at this
    omega
  have e := ho (by omega)
  subst e
  have hc := h.2 (off + j) (by omega)
  have e2 : ((ss.drop off).map Value.string)[j]? = some (.string (ss.getD (off + j) ByteArray.empty)) := by
    rw [List.getElem?_map, List.getElem?_drop, List.getElem?_eq_getElem (by omega)]
    simp [List.getElem?_eq_getElem (show off + j < ss.length by omega)]
  rw [e2] at hu
  rw [← hu, ← hc]
  rcases j with _ | j
  · simp [Addr.add]
  · simp [Addr.add]

end Go.Proofs.YtnooadfgoccegaaDoor

set_option linter.unusedVariables false
namespace Go.Proofs.YtnooadfgoccegaaDoor

section
variable {P : Program} {l : List Oper} {Q : Exit → Act → World → Prop} {md : Region.Mode} {S : World → Prop}
theorem takeL (i : Nat) {oi : Oper} {v : Value} {fuel : Nat} {listed : Array Bool} {a : Act} {w : World} (hi : l[i]? = some oi)
    (hs : Region.noSelect l.toArray = true) (hf : Region.free md l.toArray listed i = true) (hr : (Region.ready md l.toArray listed).contains i = true)
    (hQ : ∀ c a w, Q (.panic c) (a.put oi.dst v) w → Q (.panic c) a w) (hw : Region.wanted oi (yielded l.toArray a.tmps) = true) (hy : ∀ w, S w → (execOp a.eval oi).run P w = .ok (.value v) w) (hS : S w)
    (h : wpAnyH P md l.toArray Q S fuel (listed.setIfInBounds i true) (a.put oi.dst v) w) : wpAnyH P md l.toArray Q S (fuel + 1) listed a w :=
  wpAnyH_take (by simpa using hi) hs hf hr hQ (Or.inl ⟨hw, hy⟩) hS h
theorem skipL (i : Nat) {oi : Oper} {fuel : Nat} {listed : Array Bool} {a : Act} {w : World} (hi : l[i]? = some oi)
    (hs : Region.noSelect l.toArray = true) (hf : Region.free md l.toArray listed i = true) (hr : (Region.ready md l.toArray listed).contains i = true)
    (hQ : ∀ c a w, Q (.panic c) (a.put oi.dst undef) w → Q (.panic c) a w) (hw : Region.wanted oi (yielded l.toArray a.tmps) = false) (hS : S w)
    (h : wpAnyH P md l.toArray Q S fuel (listed.setIfInBounds i true) (a.put oi.dst undef) w) : wpAnyH P md l.toArray Q S (fuel + 1) listed a w :=
  wpAnyH_take (by simpa using hi) hs hf hr hQ (Or.inr ⟨hw, rfl⟩) hS h
theorem callL (i : Nat) {o : Oper} {fuel : Nat} {listed : Array Bool} {a : Act} {w : World} (ho : l[i]? = some o) (hr : Region.ready md l.toArray listed = [i])
    (h : ∀ K' : Act → World → Prop, Shut (∀ a w, S w → (S w → wpAnyH P md l.toArray Q S fuel (listed.setIfInBounds i true) a w) → K' a w) → if Region.wanted o (yielded l.toArray a.tmps) = true then Oper.wp P o a w K' Q else K' (a.put o.dst undef) w) : wpAnyH P md l.toArray Q S (fuel + 1) listed a w :=
  wpAnyH_ready hr (by simp) (AllReadyH.cons (by simpa using ho) h AllReadyH.nil)
end

end Go.Proofs.YtnooadfgoccegaaDoor

