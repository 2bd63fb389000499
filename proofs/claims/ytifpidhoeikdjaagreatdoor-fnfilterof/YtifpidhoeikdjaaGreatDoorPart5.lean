/-
  Texts that the last part needs, joined.
-/
import Derived.Test.YtifpidhoeikdjaaGreatDoorPart1
import Derived.Test.YtifpidhoeikdjaaGreatDoorPart2
import Derived.Test.YtifpidhoeikdjaaGreatDoorPart3
import Derived.Test.YtifpidhoeikdjaaGreatDoorPart4
import Derived.Lib.FrozenHead2
import Derived.Lib.OthersKept
import Derived.WalkKit
import Derived.Laws.Externs
import Derived.Lib.UnsafeStr
import Derived.BigRegion
import Derived.Deep.MidRow
import Derived.Deep.RegionWith
import Derived.RegionTactic
import Derived.OwnWalk
import Derived.Test.YtifpidhoeikdjaaGreatDoorProg
set_option linter.unusedVariables false
namespace Go.Proofs.YtifpidhoeikdjaaGreatDoor
open Go.Shelf Go.RowKit

theorem sizeBuilder : (Tryz.prog.info? 61).map (fun i => i.size) = some 2 := by kernel_rfl
theorem liesBuilder : liesAt Tryz.prog Tryz.prog.depth 61 (2 / Tryz.prog.cellsOf 61) 0 61 1 = true := by kernel_rfl
theorem infoByte : (Tryz.prog.info? 5).map (fun i => (i.zero, i.size, i.bytes)) = some (some (.int .u8 0), 1, 1) := by kernel_rfl

set_option maxHeartbeats 1000000 in
set_option maxRecDepth 100000 in
theorem copyCheck_used (b : Nat) (w : World) (h0 : w.cell? ⟨b, 0, none⟩ = some (.pointer (some ⟨b, 0, none⟩))) :
    Calls Tryz.prog 88 #[.pointer (some ⟨b, 0, none⟩)] w fun e w' => e = .returned (.tuple #[]) ∧ w' = w := by
  obtain ⟨j, hj, _⟩ := Option.map_eq_some_iff.1 sizeBuilder
  go_enter Tryz.func88, Tryz.ntmps88
  go_wp2
  rw [Lib.run_neq_ptr_same w _ Tryz.underlying59 hj]
  go_wp2
  go_end0
  exact ⟨rfl, rfl⟩

set_option maxHeartbeats 1000000 in
set_option maxRecDepth 100000 in
theorem copyCheck_fresh (b : Nat) (w : World) (h0 : w.cell? ⟨b, 0, none⟩ = some (.pointer none)) (hsh : w.shape? b = some (61, 2)) (hfz : w.frozen? ⟨b, 0, none⟩ = false) :
    Calls Tryz.prog 88 #[.pointer (some ⟨b, 0, none⟩)] w fun e w' => e = .returned (.tuple #[]) ∧ w' = w.setCell ⟨b, 0, none⟩ (.pointer (some ⟨b, 0, none⟩)) := by
  obtain ⟨j, hj, hjs⟩ := Option.map_eq_some_iff.1 sizeBuilder
  go_enter Tryz.func88, Tryz.ntmps88
  go_wp2
  rw [Lib.run_to_unsafe w ⟨b, 0, none⟩ Tryz.underlying59 Tryz.underlying121 hj (by rw [hjs]; decide) hsh (Nat.zero_lt_succ 1)]
  simp only [Result.andThen]
  rw [Oper.upon_value]
  go_wp2
  rw [run_callFunc_extern Tryz.func111 (by kernel_rfl) (by kernel_rfl) (by kernel_rfl) (e := Extern.AbiNoEscape.same) (by kernel_rfl)]
  rw [Lib.run_noEscape]
  simp only [Result.andThen]
  rw [Oper.upon_value]
  go_wp2
  rw [Lib.run_from_unsafe w ⟨b, 0, none⟩ Tryz.underlying121 Tryz.underlying59 hj hsh liesBuilder]
  simp only [Result.andThen]
  rw [Oper.upon_value]
  go_wp2
  go_end0
  exact ⟨rfl, rfl⟩

theorem copyCheck_any (B b : Nat) (bs : List Value) (w : World) (h : Lib.IsBuilderF 61 5 B b bs w) :
    Calls Tryz.prog 88 #[.pointer (some ⟨b, 0, none⟩)] w fun e w' => e = .returned (.tuple #[]) ∧ (Lib.BuilderAtF 61 5 B b (.pointer (some ⟨b, 0, none⟩)) bs w' ∧ Below B w w' ∧ Lib.OthersKept 5 (some b) w w') := by
  rcases h with h | h
  · refine (copyCheck_fresh b w h.cell0 h.shape h.frozen0).mono ?_
    rintro e w' ⟨rfl, rfl⟩
    exact ⟨rfl, h.used _, (Below.refl B w).setCell (p := ⟨b, 0, none⟩) h.1 _, (Lib.OthersKept.refl _ _ w).setCell ⟨b, 0, none⟩ rfl _⟩
  · refine (copyCheck_used b w h.cell0).mono ?_
    rintro e w' ⟨rfl, rfl⟩
    exact ⟨rfl, h, Below.refl B _, Lib.OthersKept.refl _ _ _⟩

set_option maxHeartbeats 2000000 in
set_option maxRecDepth 100000 in
theorem writeByte (B b : Nat) (bs : List Value) (c : Int) (w : World) (h : Lib.IsBuilderF 61 5 B b bs w) (hlen : bs.length + 1 ≤ 140737488355328) (hBw : B ≤ w.heap.size) :
    Calls Tryz.prog 47 #[.pointer (some ⟨b, 0, none⟩), .int .u8 c] w fun e w' => e = .returned .nilIface ∧ (Lib.IsBuilderF 61 5 B b (bs ++ [.int .u8 c]) w' ∧ Below B w w' ∧ Lib.OthersKept 5 (some b) w w') := by
  obtain ⟨i0, hi, hz0, hz1, hz2⟩ := info_parts infoByte
  go_enter Tryz.func47, Tryz.ntmps47
  go_wp2_with (go_at_call 88; refine (copyCheck_any B b bs _ h).mono ?_)
  rintro e w1 ⟨rfl, h1, hb1, hk1⟩
  obtain ⟨hB, v, hbk, hown, hne⟩ := h1
  have c0 : w1.cell? ⟨b, 0, none⟩ = some (.pointer (some ⟨b, 0, none⟩)) := by rw [Lib.cell_of_heap hbk]; rfl
  have c1 : w1.cell? ⟨b, 1, none⟩ = some v := by rw [Lib.cell_of_heap hbk]; rfl
  go_wp2_with (at_builtin; refine wpList_append_ownF _ rfl _ _ 28 rfl B 5 i0 (.int .u8 0) 1 1 Tryz.underlying28 hi hz0 hz1 hz2 rfl (by decide) _ _ _ rfl (hown.alloc _) ⟨w1.heap.size, 0, none⟩ 1 1 [.int .u8 c] rfl rfl ?c1 ?c2 ?c3 ?c4 ?c5 ?_)
  case c1 =>
    intro j u hj
    match j, hj with
    | 0, hj => simp at hj; subst hj; simp [Addr.add]
  case c2 => intro u hu; simp at hu; subst hu; rfl
  case c3 => unfold maxLen; omega
  case c4 => omega
  case c5 => have := hb1.size; simp; omega
  intro v' w2 hown' hgrow _
  have hlt : b < w1.heap.size := by
    rcases Nat.lt_or_ge b w1.heap.size with h' | h'
    · exact h'
    · simp [Array.getElem?_eq_none h'] at hbk
  have hb2 : w2.heap[b]? = some (.cells #[.pointer (some ⟨b, 0, none⟩), v] 61 (0, 0)) := by
    rw [hgrow.block b (by simp; omega) (fun e => hne e.symm), Lib.alloc_old w1 _ b hlt]
    exact hbk
  have d0 : w2.cell? ⟨b, 0, none⟩ = some (.pointer (some ⟨b, 0, none⟩)) := by rw [Lib.cell_of_heap hb2]; rfl
  have d1 : w2.cell? ⟨b, 1, none⟩ = some v := by rw [Lib.cell_of_heap hb2]; rfl
  have f1 : w2.frozen? ⟨b, 1, none⟩ = false := Lib.frozen_of_heap hb2 1
  obtain ⟨g, cap, rfl⟩ : ∃ g cap, v' = .slice (some ⟨g, 0, none⟩) (bs.length + 1) cap := by
    rcases hown'.2 with ⟨_, h0⟩ | ⟨g, cap, cur, fz, hv, _⟩
    · omega
    · exact ⟨g, cap, hv⟩
  go_wp2
  go_ret
  refine ⟨rfl, Or.inr ?_, ?_, ((hk1.alloc _).grown hgrow (Lib.ownsRowF_kind (hown.alloc _))).setCell ⟨b, 1, none⟩ rfl _⟩
  · exact Lib.BuilderAtF.put (T := 61) (e := 5) hB hb2 (bs' := bs ++ [.int .u8 c]) (by simpa using hown') (by decide)
  · exact ((hb1.alloc (by have := hb1.size; omega) _).grown hgrow (by have := hb1.size; simp; omega) (fun k hk => (hown.lt k hk).1)).setCell (p := ⟨b, 1, none⟩) hB _

end Go.Proofs.YtifpidhoeikdjaaGreatDoor

set_option linter.unusedVariables false
namespace Go.Proofs.YtifpidhoeikdjaaGreatDoor
open Go.RowKit

theorem fig_digit (x j : Nat) (hx : x < 4294967296) (hj : j < 8) : x * 16 ^ j % 4294967296 / 268435456 = x / 2 ^ (4 * (7 - j)) % 16 := by
  match j, hj with
  | 0, _ => simp; omega
  | 1, _ => simp; omega
  | 2, _ => simp; omega
  | 3, _ => simp; omega
  | 4, _ => simp; omega
  | 5, _ => simp; omega
  | 6, _ => simp; omega
  | 7, _ => simp; omega

set_option maxHeartbeats 1000000 in
set_option maxRecDepth 100000 in
theorem figuresI (x : Nat) (w : World) (hx : x < 4294967296) :
    Calls Tryz.prog 78 #[.int .u32 x] w fun e w' => e = .returned (.string ⟨(hexOf x).toArray⟩) ∧ Below w.heap.size w w' := by
  go_enter Tryz.func78, Tryz.ntmps78
  go_wp2
  go_loopw [0, 4] (fun v i wr => ∃ j y : Nat, j ≤ 8 ∧ i = .int .i64 j ∧ v = .int .u32 y ∧ Hid (y = x * 16 ^ j % 4294967296) ∧ Lib.IsBuilderF 61 5 w.heap.size w.heap.size (Lib.byteCells ((hexOf x).take j)) wr ∧ Below w.heap.size w wr) (fun _ i _ => 8 - (intOf i).toNat)
  case atStart =>
    exact ⟨0, x, by omega, rfl, rfl, by show x = _; simp; omega, Lib.IsBuilderF.of (Lib.fresh_isBuilder 61 5 w), (Below.refl _ w).alloc (Nat.le_refl _) _⟩
  case round =>
    obtain ⟨j, y, hj, rfl, rfl, hy, hI, hbw⟩ := hrel
    have hsz := hbw.size
    have hyl : y < 4294967296 := by rw [hy.out]; exact Nat.mod_lt _ (by decide)
    by_cases hlt : j < 8
    · obtain ⟨d, hd⟩ : ∃ d : Nat, d = y / 268435456 := ⟨_, rfl⟩
      have rd : (y : Int) / 268435456 = (d : Int) := by rw [hd]; simp
      have hd16 : d < 16 := by rw [hd]; omega
      have HD : Hid (d = x / 2 ^ (4 * (7 - j)) % 16) := by show d = _; rw [hd, hy.out]; exact fig_digit x j hx hlt
      have HY : Hid (y * 16 % 4294967296 = x * 16 ^ (j + 1) % 4294967296) := by
        show _ = _
        rw [hy.out, Nat.pow_succ, ← Nat.mul_assoc, Nat.mod_mul_mod]
      clear hd
      go_wp2_with fail
      refine (writeByte _ _ _ _ _ hI (by rw [Lib.byteCells_length]; simp; omega) hsz).mono ?_
      rintro e w1 ⟨rfl, h1, b1, k1⟩
      have h2 : Lib.IsBuilderF 61 5 w.heap.size w.heap.size (Lib.byteCells ((hexOf x).take (j + 1))) w1 := by
        rw [hexOf_take x j hlt, ← HD.out, ← figs_at d hd16 (by show d < 16; exact hd16), Lib.byteCells_append]
        exact h1
      clear h1
      go_wp2
      go_roundw
      case rel => exact ⟨j + 1, y * 16 % 4294967296, by omega, by go_num, by go_num, HY, h2, hbw.trans b1⟩
      case measure => simp [intOf]; omega
    · have hl8 : (hexOf x).take j = hexOf x := List.take_of_length_le (by simp [hexOf]; omega)
      rw [hl8] at hI
      clear hl8
      go_wp2_with fail
      refine (Tryz.Builder_String_any_k _ _ _ _ hI hsz).mono ?_
      rintro e w2 ⟨rfl, _, b2, _⟩
      go_wp2
      go_ret
      exact ⟨rfl, hbw.trans b2⟩

end Go.Proofs.YtifpidhoeikdjaaGreatDoor

namespace Go.Proofs.YtifpidhoeikdjaaGreatDoor
open Go.RowKit

theorem endB8 (A : List Nat) (n : Nat) : endB (A ++ [0, 0, 0, 0, 0, 0, 0, 0]) n 8 = A ++ [n / 2 ^ 56 % 256, n / 2 ^ 48 % 256, n / 2 ^ 40 % 256, n / 2 ^ 32 % 256, n / 2 ^ 24 % 256, n / 2 ^ 16 % 256, n / 2 ^ 8 % 256, n / 2 ^ 0 % 256] := by
  have hl : (A ++ [0, 0, 0, 0, 0, 0, 0, 0]).length = A.length + 8 := by simp
  simp only [endB, hl]
  rw [show A.length + 8 - 1 - 0 = A.length + 7 from by omega, show A.length + 8 - 1 - 1 = A.length + 6 from by omega, show A.length + 8 - 1 - 2 = A.length + 5 from by omega, show A.length + 8 - 1 - 3 = A.length + 4 from by omega,
    show A.length + 8 - 1 - 4 = A.length + 3 from by omega, show A.length + 8 - 1 - 5 = A.length + 2 from by omega, show A.length + 8 - 1 - 6 = A.length + 1 from by omega, show A.length + 8 - 1 - 7 = A.length + 0 from by omega]
  repeat rw [List.set_append_right _ _ (by omega)]
  simp only [Nat.add_sub_cancel_left]
  rfl
theorem ofNat_mod (x : Nat) : (UInt8.ofNat (x % 256)).toNat = x % 256 := by
  simp
theorem padN_padB (t : List UInt8) : padN t = (padB t).map (·.toNat) := by
  have hz : padLen t.length - t.length - 1 = padZ t.length + 8 := by simp only [padZ, padLen]; omega
  have hr : List.replicate (padZ t.length + 8) (0 : Nat) = List.replicate (padZ t.length) 0 ++ [0, 0, 0, 0, 0, 0, 0, 0] := by
    rw [← List.replicate_append_replicate]; rfl
  rw [padN, hz, hr, show t.map (·.toNat) ++ 128 :: (List.replicate (padZ t.length) 0 ++ [0, 0, 0, 0, 0, 0, 0, 0]) = (t.map (·.toNat) ++ 128 :: List.replicate (padZ t.length) 0) ++ [0, 0, 0, 0, 0, 0, 0, 0] from by simp, endB8]
  simp only [padB, List.map_append, List.map_cons, List.map_replicate, lenB]
  congr 1
  simp only [List.map_map]
  show _ = List.map _ [0, 1, 2, 3, 4, 5, 6, 7]
  simp only [List.map_cons, List.map_nil, Function.comp, ofNat_mod]

end Go.Proofs.YtifpidhoeikdjaaGreatDoor

set_option linter.unusedVariables false
namespace Go.Proofs.YtifpidhoeikdjaaGreatDoor
open Go.RowKit

theorem sha0_cells : uCells sha0.toL = #[Value.int .u32 1779033703, Value.int .u32 3144134277, Value.int .u32 1013904242, Value.int .u32 2773480762, Value.int .u32 1359893119, Value.int .u32 2600822924, Value.int .u32 528734635, Value.int .u32 1541459225] := rfl
theorem shaK_len : shaK.length = 64 := rfl
theorem loadU8 (l : List Nat) (hl : l.length = 8) (g : Nat) (w : World) (h : RowU 95 w g l) : (Instr.loadAt 95 (.pointer (some ⟨g, 0, none⟩))).run Tryz.prog w = .ok (.agg (uCells l)) w := by
  have := run_loadAt_mid (P := Tryz.prog) w g 0 95 (uCells l).toList _ h.range Tryz.underlying95 rfl (by rw [size8, Array.length_toList, uCells_size, hl])
  rw [Array.toArray_toList] at this
  exact this
theorem storeU8 (l m : List Nat) (hl : l.length = 8) (hm : m.length = 8) (g : Nat) (w : World) (h : RowU 95 w g m) : (Instr.storeAt 95 (.pointer (some ⟨g, 0, none⟩)) (.agg (uCells l))).run Tryz.prog w = .ok () (w.setCells g 0 (uCells l).toList) :=
  run_storeAt_mid (P := Tryz.prog) w g 0 95 (uCells l) (h.there _ (by rw [uCells_size, hl, hm])) (by rw [size8, uCells_size, hl]) (uCells_one _)

theorem scheduleI2 (bs : List Nat) (g o cap : Nat) (w : World) (hn : ∀ i, i < bs.length → w.cell? ⟨g, o + i, none⟩ = some (.int .u8 ((bs.getD i 0 : Nat) : Int))) (hl : bs.length = 64) (hbb : ∀ x ∈ bs, x < 256) (hg : g < w.heap.size) :
    Calls Tryz.prog 77 #[.slice (some ⟨g, o, none⟩) 64 cap] w fun e w' => ∃ ws, e = .returned (.agg (uCells ws)) ∧ Hid (ws = schedTo bs 48) ∧ Hid (Below w.heap.size w w') :=
  (scheduleI bs g o cap w hn hl hbb hg).mono fun e w' h => ⟨_, h.1, rfl, h.2⟩
theorem nextI2 (bs : List Nat) (hbb : ∀ x ∈ bs, x < 256) (ws : List Nat) (hws : ws = schedTo bs 48) (s : St) (hs : s.ok) (w : World) (hms : RowG w shaK) :
    Calls Tryz.prog 76 #[.agg (uCells s.toL), .agg (uCells ws)] w fun e w' => ∃ l, e = .returned (.agg (uCells l)) ∧ Hid (l = (mix shaK s bs).toL) ∧ Hid (Below w.heap.size w w') := by
  have h1 := schedTo_length bs 48
  have h2 := schedTo_lt bs hbb 48
  have h3 : mix shaK s bs = s.plus (rounds shaK (schedTo bs 48) s 64) := rfl
  rw [← hws] at h1 h2 h3
  exact (nextI shaK ws s hs w hms shaK_len shaK_ok h1 h2).mono fun e w' h => ⟨_, h.1, by rw [h3]; rfl, h.2⟩

theorem toL_len (s : St) : s.toL.length = 8 := rfl
theorem cells8 {T : TypeId} {w : World} {G a b c d e f g h : Nat} (H : RowU T w G (St.toL ⟨a, b, c, d, e, f, g, h⟩)) : w.cell? ⟨G, 0, none⟩ = some (.int .u32 (a : Int)) ∧ w.cell? ⟨G, 1, none⟩ = some (.int .u32 (b : Int)) ∧ w.cell? ⟨G, 2, none⟩ = some (.int .u32 (c : Int)) ∧ w.cell? ⟨G, 3, none⟩ = some (.int .u32 (d : Int)) ∧ w.cell? ⟨G, 4, none⟩ = some (.int .u32 (e : Int)) ∧ w.cell? ⟨G, 5, none⟩ = some (.int .u32 (f : Int)) ∧ w.cell? ⟨G, 6, none⟩ = some (.int .u32 (g : Int)) ∧ w.cell? ⟨G, 7, none⟩ = some (.int .u32 (h : Int)) :=
  ⟨H.cell 0 (by show _ < 8; decide), H.cell 1 (by show _ < 8; decide), H.cell 2 (by show _ < 8; decide), H.cell 3 (by show _ < 8; decide), H.cell 4 (by show _ < 8; decide), H.cell 5 (by show _ < 8; decide), H.cell 6 (by show _ < 8; decide), H.cell 7 (by show _ < 8; decide)⟩
theorem nextI3 (bs : List Nat) (hbb : ∀ x ∈ bs, x < 256) (ws : List Nat) (hws : ws = schedTo bs 48) (a b c d e f g h : Nat) (hs : (⟨a, b, c, d, e, f, g, h⟩ : St).ok) (w : World) (hms : RowG w shaK) :
    Calls Tryz.prog 76 #[.agg #[.int .u32 (a : Int), .int .u32 (b : Int), .int .u32 (c : Int), .int .u32 (d : Int), .int .u32 (e : Int), .int .u32 (f : Int), .int .u32 (g : Int), .int .u32 (h : Int)], .agg (uCells ws)] w fun e' w' => ∃ l, e' = .returned (.agg (uCells l)) ∧ Hid (l = (mix shaK ⟨a, b, c, d, e, f, g, h⟩ bs).toL) ∧ Hid (Below w.heap.size w w') :=
  nextI2 bs hbb ws hws ⟨a, b, c, d, e, f, g, h⟩ hs w hms

set_option maxHeartbeats 1000000 in
set_option maxRecDepth 100000 in
theorem implSum (s : ByteArray) (w : World) (hs : s.size ≤ 1073741824) (hK : RowG w shaK) :
    Calls Tryz.prog 45 #[.string s] w fun e w' => e = .returned (.string ⟨(sumB s.data.toList).toArray⟩) ∧ Below w.heap.size w w' := by
  obtain ⟨W, hW⟩ : ∃ W, W = w.alloc (.cells (uCells sha0.toL) 95) := ⟨_, rfl⟩
  have HZ : Hid (RowU 95 W w.heap.size sha0.toL ∧ W.heap.size = w.heap.size + 1 ∧ Below w.heap.size w W) := by
    refine ⟨?_, ?_, ?_⟩
    · rw [hW]; exact heap_alloc_new w _
    · rw [hW]; simp
    · rw [hW]; exact (Below.refl _ w).alloc (Nat.le_refl _) _
  have HW : Hid (W = w.alloc (.cells (uCells sha0.toL) 95)) := hW
  have HK : Hid (RowG w shaK) := hK
  clear hW hK
  go_enter Tryz.func45, Tryz.ntmps45
  go_wp2_with fail
  rw [← sha0_cells, ← HW.out]
  refine (paddedI s _ hs).mono ?_
  rintro e w1 ⟨g, cap, rfl, hrow, b1⟩
  have hg := hrow.lt
  have hcells : ∀ i, i < padLen s.size → w1.cell? ⟨g, i, none⟩ = some (.int .u8 (((padN s.data.toList).getD i 0 : Nat) : Int)) := by
    intro i hi
    have hlB : i < (padB s.data.toList).length := by rw [padB_length]; simpa using hi
    rw [hrow.cells i hlB, padN_padB]
    simp [List.getElem?_eq_getElem hlB]
  have hcap : padLen s.size ≤ cap ∧ cap ≤ maxLen := by
    obtain ⟨g', cap', cur, fz, hv, _, _, _, h1, h2, _⟩ := hrow
    simp only [Value.slice.injEq, Option.some.injEq, Addr.mk.injEq, and_true] at hv
    obtain ⟨_, _, rfl⟩ := hv
    rw [padB_length] at h1
    exact ⟨by simpa using h1, h2⟩
  have hlen := padN_length s.data.toList
  rw [show s.data.toList.length = s.size from by simp] at hlen
  have hpl := padN_lt s.data.toList
  have HSH : Hid (sha s.data.toList = mixTo (padN s.data.toList) (padLen s.size / 64)) := by
    show _ = _
    rw [sha, show s.data.toList.length = s.size from by simp]
  generalize padN s.data.toList = P at hcells hlen hpl HSH
  obtain ⟨L, hL⟩ : ∃ L, L = padLen s.size := ⟨_, rfl⟩
  have hL2 : L ≤ s.size + 72 := by rw [hL]; unfold padLen; omega
  have HLm : Hid (L % 64 = 0) := by show _ = _; rw [hL]; exact padLen_mod _
  rw [← hL] at hcells hcap hlen HSH ⊢
  have HL : Hid (P.length = L) := hlen
  have HC : Hid (∀ i, i < L → w1.cell? ⟨g, i, none⟩ = some (.int .u8 ((P.getD i 0 : Nat) : Int))) := hcells
  have HG : Hid (w.heap.size + 1 ≤ g ∧ g < w1.heap.size) := by
    refine ⟨?_, hg.2⟩
    have := hg.1
    rw [HZ.out.2.1] at this
    exact this
  have hw0 : 0 < w.heap.size := HK.out.lt
  have HB : Hid (RowU 95 w1 w.heap.size sha0.toL ∧ RowG w1 shaK ∧ Below w.heap.size w w1) := by
    have hb := HZ.out.2.2.trans (b1.mono (by rw [HZ.out.2.1]; omega))
    exact ⟨HZ.out.1.below b1 (by rw [HZ.out.2.1]; omega), HK.out.below hb hw0, hb⟩
  have hc2 := hcap.1
  have hc3 : cap ≤ 9223372036854775807 := by have := hcap.2; simp only [maxLen] at this; omega
  clear hlen hL hg hcells hrow b1 HZ HW hcap
  go_wp2
  go_loopw [5] (fun i wr => ∃ (j m : Nat), m ≤ L ∧ i = .int .i64 (m : Int) ∧ Hid (m = 64 * j) ∧ Hid (RowU 95 wr w.heap.size (mixTo P j).toL) ∧ Hid (RowG wr shaK) ∧ Hid (∀ i, i < L → wr.cell? ⟨g, i, none⟩ = some (.int .u8 ((P.getD i 0 : Nat) : Int))) ∧ Hid (g < wr.heap.size) ∧ Hid (Below w.heap.size w wr)) (fun i _ => L - (intOf i).toNat)
  case atStart => exact ⟨0, 0, by omega, rfl, rfl, HB.out.1, HB.out.2.1, HC, HG.out.2, HB.out.2.2⟩
  case round =>
    obtain ⟨j, m, hm, rfl, HM, HR, HK1, HC1, HG1, HB1⟩ := hrel
    have hm64 : m < L → m + 64 ≤ L := by have h1 := HLm.out; have h2 := HM.out; omega
    by_cases hlt : m < L
    · have hm2 := hm64 hlt
      have hsl : ((P.drop m).take 64).length = 64 := by simp [HL.out]; omega
      have hsb : ∀ x ∈ (P.drop m).take 64, x < 256 := fun x hx => hpl x (List.mem_of_mem_drop (List.mem_of_mem_take hx))
      have HNX : Hid (mixTo P (j + 1) = mix shaK (mixTo P j) ((P.drop m).take 64)) := by show _ = _; rw [mixTo, ← HM.out]
      have HN : Hid (∀ i, i < ((P.drop m).take 64).length → wr.cell? ⟨g, m + i, none⟩ = some (.int .u8 ((((P.drop m).take 64).getD i 0 : Nat) : Int))) := by
        intro i hi
        rw [hsl] at hi
        rw [HC1.out (m + i) (by omega)]
        simp [hi]
      generalize (P.drop m).take 64 = bs at HN hsl hsb HNX
      have Hsb : Hid (∀ x ∈ bs, x < 256) := hsb
      obtain ⟨m2, hm2e⟩ : ∃ m2 : Nat, m2 = m + 64 := ⟨_, rfl⟩
      have lw : IntKind.i64.wrap ((m : Int) + 64) = (m2 : Int) := by rw [IntKind.wrap_i64, hm2e]; omega
      have lm0 : (0 : Int) ≤ (m : Int) := by omega
      have lm1 : (m : Int) ≤ (m2 : Int) := by omega
      have lm2 : (m2 : Int) ≤ (cap : Int) := by omega
      have lm3 : (0 : Int) ≤ (m2 : Int) := by omega
      have ld1 : m2 - m = 64 := by omega
      have lne : ¬ cap = m := by omega
      have ld2 : ((m2 : Int) - (m : Int)).toNat = 64 := by omega
      have ld3 : (m2 : Int) - (m : Int) = 64 := by omega
      have HM2 : Hid (m2 = m + 64) := hm2e
      clear hm2e
      clear hm64 hsb
      have hmo := mixTo_ok P j
      generalize mixTo P j = st at HR HNX hmo
      have hwlt : w.heap.size < wr.heap.size := HR.out.lt
      have hw0lt : 0 < wr.heap.size := by omega
      obtain ⟨a, b, c, d, e, f, gg, h⟩ := st
      have Hok : Hid ((⟨a, b, c, d, e, f, gg, h⟩ : St).ok) := hmo
      obtain ⟨c0, c1, c2, c3, c4, c5, c6, c7⟩ := cells8 HR.out
      clear hmo
      go_wp2_with fail
      go_region_with (first | (go_at_call 77; refine (scheduleI2 bs g m _ _ ?_ hsl Hsb.out ?_).mono ?_; exact HN.out; exact HG1.out; rintro e w2 ⟨ws, rfl, HWS, b2⟩; have hr2 : Hid (RowU 95 w2 w.heap.size (St.toL ⟨a, b, c, d, e, f, gg, h⟩)) := HR.out.drew.below b2.out hwlt; have hk2 : Hid (RowG w2 shaK) := HK1.out.drew.below b2.out hw0lt; obtain ⟨d0, d1, d2, d3, d4, d5, d6, d7⟩ := cells8 hr2.out) | (go_at_call 76; refine (nextI3 bs Hsb.out ws HWS.out a b c d e f gg h Hok.out _ ?_).mono ?_; exact hk2.out; rintro e w3 ⟨l3, rfl, HL3, b3⟩; have hr3 : Hid (RowU 95 w3 w.heap.size (St.toL ⟨a, b, c, d, e, f, gg, h⟩)) := hr2.out.below b3.out hr2.out.lt; have hk3 : Hid (RowG w3 shaK) := hk2.out.below b3.out hk2.out.lt; have hsz : (uCells l3).size = 8 := (by rw [uCells_size, HL3.out]; exact toL_len _); have hst := run_storeCellsU (P := Tryz.prog) hr3.out l3 (by rw [HL3.out, toL_len, toL_len])))
      all_goals
        go_wp2
        go_roundw
        case rel =>
          have hbb : Below w.heap.size w w3 := (HB1.out.drew.trans (b2.out.mono (Nat.le_of_lt hwlt))).trans (b3.out.mono (Nat.le_of_lt hr2.out.lt))
          have hg3 : g < w3.heap.size := Nat.lt_of_lt_of_le HG1.out (Nat.le_trans b2.out.size b3.out.size)
          have hg2 : g < w2.heap.size := Nat.lt_of_lt_of_le HG1.out b2.out.size
          refine ⟨j + 1, m + 64, by omega, by go_num, ?_, ?_, ?_, ?_, ?_, ?_⟩
          · show m + 64 = 64 * (j + 1)
            have := HM.out
            omega
          · show RowU _ _ _ _
            rw [HNX.out, ← HL3.out]
            exact hr3.out.over (by rw [HL3.out, toL_len, toL_len])
          · exact hk3.out.keep (heap_setCells_other _ _ _ _ _ (by omega))
          · intro i hi
            rw [World.cell?_setCells_out _ _ _ _ _ (fun h1 _ => absurd h1 (by have := HG.out.1; show ¬ g = w.heap.size; omega))]
            rw [b3.out.cell (p := ⟨g, i, none⟩) hg2, b2.out.cell (p := ⟨g, i, none⟩) HG1.out]
            exact HC1.out i hi
          · exact Nat.lt_of_lt_of_le hg3 (Below.setCells (Below.refl w.heap.size w3) (Nat.le_refl _) _ _).size
          · exact Below.setCells hbb (Nat.le_refl _) _ _
        case measure => simp [intOf]; omega
    · have HJ : Hid (j = L / 64) := by show j = L / 64; have h1 := HLm.out; have h2 := HM.out; omega
      have HSB : Hid (sumB s.data.toList = hexOf (mixTo P j).a ++ hexOf (mixTo P j).b) := by
        show _ = _
        rw [sumB, HSH.out, ← HJ.out]
      have hok := mixTo_ok P j
      generalize mixTo P j = t at HR hok HSB
      have c0 : wr.cell? ⟨w.heap.size, 0, none⟩ = some (.int .u32 (t.a : Int)) := HR.out.cell 0 (by simp [St.toL])
      have c1 : wr.cell? ⟨w.heap.size, 1, none⟩ = some (.int .u32 (t.b : Int)) := HR.out.cell 1 (by simp [St.toL])
      have hg := HR.out.lt
      have la := hok.1
      have lb := hok.2.1
      have hl8 : ∀ x, (hexOf x).length = 8 := fun x => by simp [hexOf]
      clear hm64 hok
      go_wp2_with fail
      go_region_with (first | (go_at_call_of 78 (Value.int .u32 (t.a : Int)); refine (figuresI _ _ la).mono ?_; rintro e w2 ⟨rfl, b2⟩; have d1 : w2.cell? ⟨w.heap.size, 1, none⟩ = some (.int .u32 (t.b : Int)) := (b2.cell (p := ⟨w.heap.size, 1, none⟩) hg).trans c1) | (go_at_call_of 78 (Value.int .u32 (t.b : Int)); refine (figuresI _ _ lb).mono ?_; rintro e w3 ⟨rfl, b3⟩))
      all_goals
        go_wp2
        go_ret
        rw [HSB.out]
        have hcat : (⟨(hexOf t.a).toArray⟩ : ByteArray) ++ ⟨(hexOf t.b).toArray⟩ = ⟨(hexOf t.a ++ hexOf t.b).toArray⟩ := by
          apply ByteArray.ext; simp
        rw [← hcat]
        have b12 := HB1.out.trans (((Below.drew (Below.refl _ wr)).trans b2).mono HB1.out.size)
        exact ⟨rfl, b12.trans (b3.mono b12.size)⟩

end Go.Proofs.YtifpidhoeikdjaaGreatDoor

set_option linter.unusedVariables false
namespace Go.Proofs.YtifpidhoeikdjaaGreatDoor
open Go.RowKit

set_option maxHeartbeats 2000000 in
set_option maxRecDepth 100000 in
theorem implFilterTo (k it : ByteArray) (below : Int) (w : World) (hK : RowG w shaK) :
    Calls Tryz.prog 20 #[.string k, .string it, .int .i64 below] w fun e w' => e = .returned (.int .i64 (filterTo k.data.toList it.data.toList below)) ∧ Below w.heap.size w w' := by
  have HK : Hid (RowG w shaK) := hK
  clear hK
  cases h1 : isSum k.data.toList with
  | false =>
    rw [filterTo_no1 h1]
    go_enter Tryz.func20, Tryz.ntmps20
    go_wp2_with (go_at_call 15; refine (implSumOk _ _).mono ?_; rintro e w1 ⟨rfl, rfl⟩)
    go_ret
    exact ⟨rfl, Below.refl _ _⟩
  | true =>
    cases h2 : isItem it.data.toList with
    | false =>
      rw [filterTo_no2 h2]
      go_enter Tryz.func20, Tryz.ntmps20
      go_wp2_with (first | (go_at_call 15; refine (implSumOk _ _).mono ?_; rintro e w1 ⟨rfl, rfl⟩) | (go_at_call 32; refine (implItemOk _ _).mono ?_; rintro e w1 ⟨rfl, rfl⟩))
      go_ret
      exact ⟨rfl, Below.refl _ _⟩
    | true =>
      by_cases h3 : below < 1
      · rw [filterTo_no3 (by omega)]
        go_enter Tryz.func20, Tryz.ntmps20
        go_wp2_with (first | (go_at_call 15; refine (implSumOk _ _).mono ?_; rintro e w1 ⟨rfl, rfl⟩) | (go_at_call 32; refine (implItemOk _ _).mono ?_; rintro e w1 ⟨rfl, rfl⟩))
        go_ret
        exact ⟨rfl, Below.refl _ _⟩
      · by_cases h4 : 60000 < below
        · rw [filterTo_no3 (by omega)]
          go_enter Tryz.func20, Tryz.ntmps20
          go_wp2_with (first | (go_at_call 15; refine (implSumOk _ _).mono ?_; rintro e w1 ⟨rfl, rfl⟩) | (go_at_call 32; refine (implItemOk _ _).mono ?_; rintro e w1 ⟨rfl, rfl⟩))
          go_ret
          exact ⟨rfl, Below.refl _ _⟩
        · have hks : k.size = 16 := by have := isSum_len h1; simpa using this
          have his := isItem_size h2
          have hsz : (k ++ (⟨#[32]⟩ : ByteArray) ++ it).size ≤ 1073741824 := by
            simp only [ByteArray.size_append, hks]
            have : (⟨#[32]⟩ : ByteArray).size = 1 := rfl
            omega
          have HF : Hid (filterTo k.data.toList it.data.toList below = (headOf (k ++ (⟨#[32]⟩ : ByteArray) ++ it).data.toList : Int) * below / 2147483648) := by
            show _ = _
            rw [filterTo_yes h1 h2 (by omega), keyItem_bytes]
          have Hk : Hid (isSum k.data.toList = true) := h1
          have Hi : Hid (isItem it.data.toList = true) := h2
          go_enter Tryz.func20, Tryz.ntmps20
          go_wp2_with (first | (go_at_call 15; refine (implSumOk _ _).mono ?_; rintro e w1 ⟨rfl, rfl⟩) | (go_at_call 32; refine (implItemOk _ _).mono ?_; rintro e w1 ⟨rfl, rfl⟩))
          refine (implSum _ _ hsz HK.out).mono ?_
          rintro e w1 ⟨rfl, b1⟩
          have HH := sumHead_sumB (k ++ (⟨#[32]⟩ : ByteArray) ++ it).data.toList
          have hlt := headOf_lt (k ++ (⟨#[32]⟩ : ByteArray) ++ it).data.toList
          generalize (k ++ (⟨#[32]⟩ : ByteArray) ++ it).data.toList = t at HF HH hlt ⊢
          have Hhd : Hid (sumHead (sumB t) = (headOf t : Int)) := HH
          clear HH hsz
          have hpl := place_lt (headOf t) below hlt (by omega)
          generalize headOf t = h at HF hlt Hhd hpl
          go_wp2_with fail
          refine (implSumHead _ _).mono ?_
          rintro e w2 ⟨rfl, rfl⟩
          rw [show (⟨(sumB t).toArray⟩ : ByteArray).data.toList = sumB t from rfl, Hhd.out]
          go_wp2
          go_ret
          rw [HF.out]
          exact ⟨rfl, b1⟩

end Go.Proofs.YtifpidhoeikdjaaGreatDoor

set_option linter.unusedVariables false
namespace Go.Proofs.YtifpidhoeikdjaaGreatDoor
open Go.Shelf Go.RowKit

set_option maxHeartbeats 1000000 in
set_option maxRecDepth 100000 in
theorem implVarPut_no (n : Int) (w : World) (h : n < 0 ∨ 2147483647 < n) :
    Calls Tryz.prog 22 #[.int .i64 n] w fun e w' => e = .returned (.string ⟨#[]⟩) ∧ Below w.heap.size w w' := by
  rcases h with h | h
  · go_enter Tryz.func22, Tryz.ntmps22
    go_wp2
    go_ret
    exact ⟨rfl, Below.refl _ _⟩
  · have h' : ¬ n < 0 := by omega
    go_enter Tryz.func22, Tryz.ntmps22
    go_wp2
    go_ret
    exact ⟨rfl, Below.refl _ _⟩

set_option maxHeartbeats 2000000 in
set_option maxRecDepth 100000 in
theorem implVarPut_yes (n : Nat) (w : World) (h : n ≤ 2147483647) :
    Calls Tryz.prog 22 #[.int .i64 n] w fun e w' => e = .returned (.string ⟨(varB 4 n).toArray⟩) ∧ Below w.heap.size w w' := by
  have h0 : ¬ (n : Int) < 0 := by omega
  have h1 : ¬ (2147483647 : Int) < n := by omega
  go_enter Tryz.func22, Tryz.ntmps22
  go_wp2
  go_loopw [0] (fun v wr => ∃ (m f : Nat) (acc : List UInt8), v = .int .i64 m ∧ m ≤ n ∧ m < 128 ^ (f + 1) ∧ f ≤ 4 ∧ acc.length + f = 4 ∧ acc ++ varB f m = varB 4 n ∧ Lib.IsBuilderF 61 5 w.heap.size w.heap.size (Lib.byteCells acc) wr ∧ Below w.heap.size w wr) (fun v _ => (intOf v).toNat)
  case atStart =>
    exact ⟨n, 4, [], rfl, Nat.le_refl _, by omega, by omega, rfl, rfl, Lib.IsBuilderF.of (Lib.fresh_isBuilder 61 5 w), (Below.refl _ w).alloc (Nat.le_refl _) _⟩
  case round =>
    obtain ⟨m, f, acc, rfl, hm, hf, hf4, hacc, heq, hI, hbw⟩ := hrel
    have hsz := hbw.size
    by_cases hlt : m < 128
    · have h2 : (m : Int) < 128 := by omega
      go_wp2_with fail
      refine (writeByte _ _ _ _ _ hI (by rw [Lib.byteCells_length]; omega) hsz).mono ?_
      rintro e w1 ⟨rfl, h1, b1, k1⟩
      rw [byteCells_snoc acc _ m (by omega) (by omega)] at h1
      go_wp2_with fail
      refine (Tryz.Builder_String_any_k _ _ _ _ h1 (by have := b1.size; omega)).mono ?_
      rintro e w2 ⟨rfl, _, b2, _⟩
      go_wp2
      go_ret
      rw [varB_small f m hlt] at heq
      rw [heq]
      exact ⟨rfl, (hbw.trans b1).trans b2⟩
    · have h2 : ¬ (m : Int) < 128 := by omega
      obtain ⟨g, rfl⟩ : ∃ g, f = g + 1 := by
        cases f with
        | zero => omega
        | succ g => exact ⟨g, rfl⟩
      go_wp2_with fail
      refine (writeByte _ _ _ _ _ hI (by rw [Lib.byteCells_length]; omega) hsz).mono ?_
      rintro e w1 ⟨rfl, h1, b1, k1⟩
      rw [byteCells_snoc acc _ (128 + m % 128) (by omega) (by omega)] at h1
      go_wp2
      go_roundw
      case rel =>
        refine ⟨m / 128, g, acc ++ [UInt8.ofNat (128 + m % 128)], by go_num, by omega, ?_, by omega, by simp; omega, ?_, h1, hbw.trans b1⟩
        · have : 128 ^ (g + 1 + 1) = 128 ^ (g + 1) * 128 := Nat.pow_succ ..
          omega
        · rw [← heq, varB_step g m hlt]; simp
      case measure => simp [intOf]; omega

end Go.Proofs.YtifpidhoeikdjaaGreatDoor

set_option linter.unusedVariables false
namespace Go.Proofs.YtifpidhoeikdjaaGreatDoor
open Go.RowKit

theorem implVarPut (n : Int) (w : World) :
    Calls Tryz.prog 22 #[.int .i64 n] w fun e w' => e = .returned (.string ⟨(varPut n).toArray⟩) ∧ Below w.heap.size w w' := by
  by_cases h : 0 ≤ n ∧ n ≤ 2147483647
  · obtain ⟨m, rfl⟩ := Int.eq_ofNat_of_zero_le h.1
    rw [varPut, if_pos h]
    exact implVarPut_yes m w (by omega)
  · rw [varPut, if_neg h]
    exact implVarPut_no n w (by omega)

end Go.Proofs.YtifpidhoeikdjaaGreatDoor

set_option linter.unusedVariables false
namespace Go.Proofs.YtifpidhoeikdjaaGreatDoor
open Go.Shelf Go.RowKit

theorem sizeBuilderR : (Tryz.prog.info? 61).map (fun i => i.size) = some 2 := by kernel_rfl
theorem liesWriter : liesAt Tryz.prog Tryz.prog.depth 67 (4 / Tryz.prog.cellsOf 67) 0 61 1 = true := by kernel_rfl
theorem infoByteR : (Tryz.prog.info? 5).map (fun i => (i.zero, i.size, i.bytes)) = some (some (.int .u8 0), 1, 1) := by kernel_rfl

/-- The writer's block. -/
def WAt (b : Nat) (p v x y : Value) (w : World) : Prop := w.heap[b]? = some (.cells #[p, v, x, y] 67 (0, 0))
theorem WAt.c0 {b : Nat} {p v x y : Value} {w : World} (h : WAt b p v x y w) : w.cell? ⟨b, 0, none⟩ = some p := by rw [Lib.cell_of_heap h]; rfl
theorem WAt.c1 {b : Nat} {p v x y : Value} {w : World} (h : WAt b p v x y w) : w.cell? ⟨b, 1, none⟩ = some v := by rw [Lib.cell_of_heap h]; rfl
theorem WAt.c2 {b : Nat} {p v x y : Value} {w : World} (h : WAt b p v x y w) : w.cell? ⟨b, 2, none⟩ = some x := by rw [Lib.cell_of_heap h]; rfl
theorem WAt.c3 {b : Nat} {p v x y : Value} {w : World} (h : WAt b p v x y w) : w.cell? ⟨b, 3, none⟩ = some y := by rw [Lib.cell_of_heap h]; rfl
theorem WAt.fz {b : Nat} {p v x y : Value} {w : World} (h : WAt b p v x y w) (i : Nat) : w.frozen? ⟨b, i, none⟩ = false := Lib.frozen_of_heap h i
theorem WAt.lt {b : Nat} {p v x y : Value} {w : World} (h : WAt b p v x y w) : b < w.heap.size := by
  rcases Nat.lt_or_ge b w.heap.size with h' | h'
  · exact h'
  · simp [WAt, Array.getElem?_eq_none h'] at h
theorem WAt.set0 {b : Nat} {p v x y : Value} {w : World} (h : WAt b p v x y w) (u : Value) : WAt b u v x y (w.setCell ⟨b, 0, none⟩ u) := by
  unfold WAt at h ⊢
  simp only [World.setCell, Array.getElem?_modify, h]
  simp
theorem WAt.set1 {b : Nat} {p v x y : Value} {w : World} (h : WAt b p v x y w) (u : Value) : WAt b p u x y (w.setCell ⟨b, 1, none⟩ u) := by
  unfold WAt at h ⊢
  simp only [World.setCell, Array.getElem?_modify, h]
  simp
theorem WAt.set2 {b : Nat} {p v x y : Value} {w : World} (h : WAt b p v x y w) (u : Value) : WAt b p v u y (w.setCell ⟨b, 2, none⟩ u) := by
  unfold WAt at h ⊢
  simp only [World.setCell, Array.getElem?_modify, h]
  simp
theorem WAt.set3 {b : Nat} {p v x y : Value} {w : World} (h : WAt b p v x y w) (u : Value) : WAt b p v x u (w.setCell ⟨b, 3, none⟩ u) := by
  unfold WAt at h ⊢
  simp only [World.setCell, Array.getElem?_modify, h]
  simp
theorem WAt.drew {b : Nat} {p v x y : Value} {w : World} (h : WAt b p v x y w) : WAt b p v x y w.drew := h

/-- A row of bytes that the call has made stands, whatever is written into another block. -/
theorem ownsRow_setCell {base : Nat} {e : TypeId} {v : Value} {n : Nat} {xs : List Value} {w : World} (h : w.ownsRow base e 1 v n xs) (b i : Nat) (u : Value) (hne : v.ownBlock ≠ some b) : (w.setCell ⟨b, i, none⟩ u).ownsRow base e 1 v n xs := by
  refine ⟨h.1, ?_⟩
  rcases h.2 with h2 | ⟨g, cap, cur, hv, h2⟩
  · exact .inl h2
  · refine .inr ⟨g, cap, cur, hv, h2.1, ?_, h2.2.2⟩
    have : g ≠ b := by
      intro he
      rw [hv] at hne
      exact hne (by simp [Value.ownBlock, he])
    rw [Below.heap_setCell w ⟨b, i, none⟩ u g this]
    exact h2.2.1

/-- The writer: its bytes so far, and the two cells behind the builder. -/
def WB (B b : Nat) (o : List UInt8) (x y : Value) (w : World) : Prop :=
  B ≤ b ∧ ∃ p v, (p = .pointer none ∨ p = .pointer (some ⟨b, 0, none⟩)) ∧ WAt b p v x y w ∧ w.ownsRow B 5 1 v o.length (Lib.byteCells o) ∧ v.ownBlock ≠ some b ∧ (o = [] → v = .slice none 0 0)
theorem WB.lt {B b : Nat} {o : List UInt8} {x y : Value} {w : World} (h : WB B b o x y w) : b < w.heap.size := by
  obtain ⟨_, p, v, _, h, _⟩ := h; exact h.lt
theorem WB.set2 {B b : Nat} {o : List UInt8} {x y : Value} {w : World} (h : WB B b o x y w) (u : Value) : WB B b o u y (w.setCell ⟨b, 2, none⟩ u) := by
  obtain ⟨hB, p, v, hp, hw, ho, hne, h0⟩ := h
  exact ⟨hB, p, v, hp, hw.set2 u, ownsRow_setCell ho b 2 u hne, hne, h0⟩
theorem WB.set3 {B b : Nat} {o : List UInt8} {x y : Value} {w : World} (h : WB B b o x y w) (u : Value) : WB B b o x u (w.setCell ⟨b, 3, none⟩ u) := by
  obtain ⟨hB, p, v, hp, hw, ho, hne, h0⟩ := h
  exact ⟨hB, p, v, hp, hw.set3 u, ownsRow_setCell ho b 3 u hne, hne, h0⟩
theorem WB.drew {B b : Nat} {o : List UInt8} {x y : Value} {w : World} (h : WB B b o x y w) : WB B b o x y w.drew := h

set_option maxHeartbeats 1000000 in
set_option maxRecDepth 100000 in
theorem copyCheck_usedW (b : Nat) (w : World) (h0 : w.cell? ⟨b, 0, none⟩ = some (.pointer (some ⟨b, 0, none⟩))) :
    Calls Tryz.prog 88 #[.pointer (some ⟨b, 0, none⟩)] w fun e w' => e = .returned (.tuple #[]) ∧ w' = w := by
  obtain ⟨j, hj, _⟩ := Option.map_eq_some_iff.1 sizeBuilderR
  go_enter Tryz.func88, Tryz.ntmps88
  go_wp2
  rw [Lib.run_neq_ptr_same w _ Tryz.underlying59 hj]
  go_wp2
  go_end0
  exact ⟨rfl, rfl⟩

set_option maxHeartbeats 1000000 in
set_option maxRecDepth 100000 in
theorem copyCheck_freshW (b : Nat) (w : World) (h0 : w.cell? ⟨b, 0, none⟩ = some (.pointer none)) (hsh : w.shape? b = some (67, 4)) (hfz : w.frozen? ⟨b, 0, none⟩ = false) :
    Calls Tryz.prog 88 #[.pointer (some ⟨b, 0, none⟩)] w fun e w' => e = .returned (.tuple #[]) ∧ w' = w.setCell ⟨b, 0, none⟩ (.pointer (some ⟨b, 0, none⟩)) := by
  obtain ⟨j, hj, hjs⟩ := Option.map_eq_some_iff.1 sizeBuilderR
  go_enter Tryz.func88, Tryz.ntmps88
  go_wp2
  rw [Lib.run_to_unsafe w ⟨b, 0, none⟩ Tryz.underlying59 Tryz.underlying121 hj (by rw [hjs]; decide) hsh (Nat.zero_lt_succ 3)]
  simp only [Result.andThen]
  rw [Oper.upon_value]
  go_wp2
  rw [run_callFunc_extern Tryz.func111 (by kernel_rfl) (by kernel_rfl) (by kernel_rfl) (e := Extern.AbiNoEscape.same) (by kernel_rfl)]
  rw [Lib.run_noEscape]
  simp only [Result.andThen]
  rw [Oper.upon_value]
  go_wp2
  rw [Lib.run_from_unsafe w ⟨b, 0, none⟩ Tryz.underlying121 Tryz.underlying59 hj hsh liesWriter]
  simp only [Result.andThen]
  rw [Oper.upon_value]
  go_wp2
  go_end0
  exact ⟨rfl, rfl⟩

theorem copyCheckW (B b : Nat) (p v x y : Value) (n : Nat) (xs : List Value) (w : World) (hB : B ≤ b) (hp : p = .pointer none ∨ p = .pointer (some ⟨b, 0, none⟩)) (h : WAt b p v x y w) (ho : w.ownsRow B 5 1 v n xs) (hne : v.ownBlock ≠ some b) :
    Calls Tryz.prog 88 #[.pointer (some ⟨b, 0, none⟩)] w fun e w' => e = .returned (.tuple #[]) ∧ WAt b (.pointer (some ⟨b, 0, none⟩)) v x y w' ∧ w'.ownsRow B 5 1 v n xs ∧ Below B w w' ∧ w'.heap.size = w.heap.size := by
  rcases hp with rfl | rfl
  · refine (copyCheck_freshW b w h.c0 (by unfold WAt at h; simp [World.shape?, h]) (h.fz 0)).mono ?_
    rintro e w' ⟨rfl, rfl⟩
    exact ⟨rfl, h.set0 _, ownsRow_setCell ho b 0 _ hne, (Below.refl B w).setCell (p := ⟨b, 0, none⟩) hB _, by simp [World.setCell]⟩
  · refine (copyCheck_usedW b w h.c0).mono ?_
    rintro e w' ⟨rfl, rfl⟩
    exact ⟨rfl, h, ho, Below.refl B _, rfl⟩

set_option maxHeartbeats 2000000 in
set_option maxRecDepth 100000 in
theorem writeByteW (B b : Nat) (o : List UInt8) (c : UInt8) (x y : Value) (w : World) (h : WB B b o x y w) (hlen : o.length + 1 ≤ 140737488355328) :
    Calls Tryz.prog 47 #[.pointer (some ⟨b, 0, none⟩), .int .u8 (c.toNat : Int)] w fun e w' => e = .returned .nilIface ∧ WB B b (o ++ [c]) x y w' ∧ Below B w w' := by
  obtain ⟨i0, hi, hz0, hz1, hz2⟩ := info_parts infoByteR
  obtain ⟨hB, p, v, hp, hw, ho, hne, _⟩ := h
  have hlt := hw.lt
  go_enter Tryz.func47, Tryz.ntmps47
  go_wp2_with (go_at_call 88; refine (copyCheckW B b p v x y o.length (Lib.byteCells o) _ hB hp hw ho hne).mono ?_)
  rintro e w1 ⟨rfl, hw1, ho1, hb1, hs1⟩
  have Hs1 : Hid (w1.heap.size = w.heap.size) := hs1
  have Hw1 : Hid (WAt b (.pointer (some ⟨b, 0, none⟩)) v x y w1) := hw1
  have c0 := hw1.c0
  have c1 := hw1.c1
  clear hs1 hw hw1 ho
  go_wp2_with (at_builtin; refine wp_app1 rfl _ _ 28 rfl B 5 i0 (.int .u8 0) 1 Tryz.underlying28 hi hz0 hz1 hz2 rfl _ o.length (Lib.byteCells o) rfl ho1 (.int .u8 (c.toNat : Int)) rfl rfl ?c3 ?c4 ?c5 ?_)
  case c3 => unfold maxLen; omega
  case c4 => omega
  case c5 => rw [Hs1.out]; omega
  intro g cap w2 hown hb2 hoth
  have hw2 : WAt b (.pointer (some ⟨b, 0, none⟩)) v x y w2 := by
    unfold WAt
    rw [hoth b (by rw [Hs1.out]; exact hlt) hne]
    exact Hw1.out
  have d0 := hw2.c0
  have d1 := hw2.c1
  have f1 := hw2.fz 1
  have HW2 : Hid (WAt b (.pointer (some ⟨b, 0, none⟩)) v x y w2) := hw2
  have hgb : g ≠ b := by
    intro he
    rcases hown.2 with ⟨h1, _⟩ | ⟨g', cap', cur, hv, _, hc, _⟩
    · cases h1
    · simp only [Value.slice.injEq, Option.some.injEq, Addr.mk.injEq, and_true, true_and] at hv
      obtain ⟨rfl, _⟩ := hv
      rw [he] at hc
      rw [HW2.out] at hc
      simp only [Option.some.injEq, Obj.cells.injEq] at hc
      exact absurd hc.2.1 (by decide)
  have HO : Hid (w2.ownsRow B 5 1 (.slice (some ⟨g, 0, none⟩) (o.length + 1) cap) (o.length + 1) (Lib.byteCells o ++ [.int .u8 (c.toNat : Int)])) := hown
  have HB2 : Hid (Below B w1 w2) := hb2
  clear hw2 hown hoth hb2
  go_wp2
  go_ret
  have hne2 : (Value.slice (some ⟨g, 0, none⟩) (o.length + 1) cap).ownBlock ≠ some b := by simp [Value.ownBlock, hgb]
  refine ⟨rfl, ⟨hB, _, _, .inr rfl, HW2.out.set1 _, ?_, hne2, fun h => by simp at h⟩, (hb1.trans HB2.out).setCell (p := ⟨b, 1, none⟩) hB _⟩
  have := ownsRow_setCell HO.out b 1 (.slice (some ⟨g, 0, none⟩) (o.length + 1) cap) hne2
  simpa [Lib.byteCells] using this

theorem cellsByte : Tryz.prog.cellsOf 5 = 1 := by kernel_rfl

set_option maxHeartbeats 2000000 in
set_option maxRecDepth 100000 in
theorem stringW (B b : Nat) (o : List UInt8) (x y : Value) (w : World) (h : WB B b o x y w) :
    Calls Tryz.prog 48 #[.pointer (some ⟨b, 0, none⟩)] w fun e w' => e = .returned (.string ⟨o.toArray⟩) ∧ Below B w w' := by
  obtain ⟨hB, p, v, hp, hw, ho, hne, h0⟩ := h
  by_cases he : o = []
  · have hv := h0 he
    subst hv
    subst he
    have hUS : ∀ (W : World) (q : Option Addr), (Builtin.unsafeString_ #[106, 3] 9 #[.pointer q, .int .i64 0]).run Tryz.prog W = .ok (.string .empty) W := fun W q => Lib.run_unsafeString_none W _ _ _ q
    have c1 : w.drew.cell? ⟨b, 1, none⟩ = some (.slice none 0 0) := hw.c1
    have hSD : (Builtin.unsafeSliceData_ #[28] 106 #[.slice none 0 0]).run Tryz.prog w.drew = .ok (.pointer none) w.drew := rfl
    go_enter Tryz.func48, Tryz.ntmps48
    go_wp2
    go_region
    all_goals (go_wp2; go_ret; exact ⟨rfl, Below.drew (Below.refl B w)⟩)
  · have hl0 : o.length ≠ 0 := by simpa using he
    obtain ⟨g, cap, cur, rfl, hbg, hg, hnc, hcm, hcs, htake⟩ : ∃ g cap cur, v = .slice (some ⟨g, 0, none⟩) o.length cap ∧ B ≤ g ∧ w.heap[g]? = some (.cells cur 5 (0, 0)) ∧ o.length ≤ cap ∧ cap ≤ maxLen ∧ cur.size = cap * 1 ∧ cur.toList.take (o.length * 1) = Lib.byteCells o := by
      rcases ho.2 with ⟨_, hz⟩ | ⟨g, cap, cur, hv, r⟩
      · exact absurd hz hl0
      · exact ⟨g, cap, cur, hv, r⟩
    have c1 : w.drew.cell? ⟨b, 1, none⟩ = some (.slice (some ⟨g, 0, none⟩) o.length cap) := hw.c1
    have hSD : (Builtin.unsafeSliceData_ #[28] 106 #[.slice (some ⟨g, 0, none⟩) o.length cap]).run Tryz.prog w.drew = .ok (.pointer (some ⟨g, 0, none⟩)) w.drew :=
      Lib.run_unsafeSliceData_row _ _ _ _ _ _ (by omega)
    have hUS : (Builtin.unsafeString_ #[106, 3] 9 #[.pointer (some ⟨g, 0, none⟩), .int .i64 o.length]).run Tryz.prog w.drew = .ok (.string ⟨o.toArray⟩) (w.drew.freeze ⟨g, 0, none⟩ o.length) := by
      refine Lib.run_unsafeString_row w.drew 106 3 9 5 Tryz.underlying106 cellsByte g cur.size (by have hg' : w.drew.heap[g]? = some (.cells cur 5 (0, 0)) := hg; simp [World.shape?, hg']) o he (by omega) (by unfold maxLen at hcm; omega) ?_
      intro j z hz
      have hj : j < o.length := by
        rcases Nat.lt_or_ge j o.length with h' | h'
        · exact h'
        · simp [List.getElem?_eq_none h'] at hz
      have hg' : w.drew.heap[g]? = some (.cells cur 5 (0, 0)) := hg
      have hcell : w.drew.cell? ⟨g, j, none⟩ = cur[j]? := Lib.cell_of_heap hg' j
      have h3 : cur.toList[j]? = (Lib.byteCells o)[j]? := by rw [← htake, List.getElem?_take]; simp [hj]
      have : w.drew.cell? ⟨g, j, none⟩ = some (.int .u8 z.toNat) := by
        rw [hcell, ← Array.getElem?_toList, h3]
        simp [Lib.byteCells, hz]
      rw [Addr.add_mid, Nat.zero_add]
      exact this
    have HB : Hid (Below B w (w.drew.freeze ⟨g, 0, none⟩ o.length)) := Lib.below_freeze (Below.drew (Below.refl B w)) (p := ⟨g, 0, none⟩) hbg _
    clear hw ho htake hcs hg
    go_enter Tryz.func48, Tryz.ntmps48
    go_wp2
    go_region
    all_goals (go_wp2; go_ret; exact ⟨rfl, HB.out⟩)

end Go.Proofs.YtifpidhoeikdjaaGreatDoor

set_option linter.unusedVariables false
namespace Go.Proofs.YtifpidhoeikdjaaGreatDoor
open Go.RowKit

def WR (B b : Nat) (s : List UInt8 × List Nat) (w : World) : Prop := WB B b s.1 (.int .u8 (valB s.2 : Int)) (.int .i64 (s.2.length : Int)) w

theorem or8 (q b : Nat) (hq : q < 128) (hb : b ≤ 1) : bits .or .u8 ((q : Int) * 2 % 256) (b : Int) = ((q * 2 + b : Nat) : Int) := by
  have e : (q : Int) * 2 % 256 = ((q * 2 : Nat) : Int) := by omega
  rw [e, (bits_nat .u8 8 (by decide) (fun m h0 h1 => by rw [IntKind.wrap_u8]; omega) (q * 2) b (by omega) (by omega)).2]
  have := (Nat.two_pow_add_eq_or_of_lt (i := 1) (by omega : b < 2 ^ 1) q).symm
  rw [show (2 : Nat) ^ 1 * q = q * 2 from by omega] at this
  rw [this]
theorem writeByteN (B b : Nat) (o : List UInt8) (v : Nat) (hv : v < 256) (x y : Value) (w : World) (h : WB B b o x y w) (hlen : o.length + 1 ≤ 140737488355328) :
    Calls Tryz.prog 47 #[.pointer (some ⟨b, 0, none⟩), .int .u8 (v : Int)] w fun e w' => e = .returned .nilIface ∧ WB B b (o ++ [UInt8.ofNat v]) x y w' ∧ Below B w w' := by
  have := writeByteW B b o (UInt8.ofNat v) x y w h hlen
  rw [show ((UInt8.ofNat v).toNat : Int) = (v : Int) from by simp; omega] at this
  exact this

set_option maxHeartbeats 1000000 in
set_option maxRecDepth 100000 in
theorem bitI (B b : Nat) (s : List UInt8 × List Nat) (bit : Nat) (w : World) (h : WR B b s w) (hok : okB s) (hb : bit ≤ 1) (hlen : s.1.length + 1 ≤ 140737488355328) :
    Calls Tryz.prog 90 #[.pointer (some ⟨b, 0, none⟩), .int .i64 (bit : Int)] w fun e w' => e = .returned (.tuple #[]) ∧ WR B b (stepB s bit) w' ∧ Below B w w' := by
  obtain ⟨o, l⟩ := s
  have hv := valB_lt l hok.2
  have hl8 : l.length < 8 := hok.1
  have HWB : Hid (WB B b o (.int .u8 (valB l : Int)) (.int .i64 (l.length : Int)) w) := h
  have hB := h.1
  obtain ⟨_, p, v, hp, hw, ho, hne⟩ := h
  have c2 := hw.c2
  have c3 := hw.c3
  have f2 := hw.fz 2
  have f3 := hw.fz 3
  clear hw ho hne hp
  have hsn := valB_snoc l bit
  have hq : valB l < 128 := by
    have : 2 ^ l.length ≤ 2 ^ 7 := Nat.pow_le_pow_right (by decide) (by omega)
    omega
  have ror := or8 (valB l) bit hq hb
  rw [← hsn] at ror
  have HV : Hid (valB (l ++ [bit]) < 256) := by show _ < _; rw [hsn]; omega
  generalize hqv : valB l = q at c2 ror HWB
  have HVV : Hid (∃ u, u = valB (l ++ [bit])) := ⟨_, rfl⟩
  obtain ⟨u, hu⟩ := HVV.out
  rw [← hu] at ror HV
  have HU : Hid (u = valB (l ++ [bit])) := hu
  clear hsn hu HVV hqv hv
  by_cases h7 : l.length = 7
  · have HS : Hid (stepB (o, l) bit = (o ++ [UInt8.ofNat u], [])) := by
      show _ = _
      rw [HU.out]
      simp [stepB, h7]
    have c3' : w.cell? ⟨b, 3, none⟩ = some (.int .i64 7) := by rw [c3, h7]; rfl
    rw [h7] at HWB
    clear c3 h7
    go_enter Tryz.func90, Tryz.ntmps90
    go_wp2_with fail
    have HW1 : Hid (WB B b o (.int .u8 (u : Int)) (.int .i64 8) ((w.setCell ⟨b, 2, none⟩ (.int .u8 (u : Int))).setCell ⟨b, 3, none⟩ (.int .i64 8))) := (HWB.out.set2 _).set3 _
    have HB1 : Hid (Below B w ((w.setCell ⟨b, 2, none⟩ (.int .u8 (u : Int))).setCell ⟨b, 3, none⟩ (.int .i64 8))) := ((Below.refl B w).setCell (p := ⟨b, 2, none⟩) hB _).setCell (p := ⟨b, 3, none⟩) hB _
    go_region_with (go_at_call 47; refine (writeByteN B b o u HV.out (.int .u8 (u : Int)) (.int .i64 8) _ ?_ hlen).mono ?_; exact HW1.out.drew; rintro e w2 ⟨rfl, hw2, hb2⟩)
    all_goals
      obtain ⟨_, p2, v2, hp2, hwa2, ho2, hne2⟩ := id hw2
      have d2 := hwa2.fz 2
      have d3 := hwa2.fz 3
      have e2 := hwa2.c2
      have e3 := hwa2.c3
      have HW2 : Hid (WB B b (o ++ [UInt8.ofNat u]) (.int .u8 (u : Int)) (.int .i64 8) w2) := hw2
      have HB2 : Hid (Below B w w2) := HB1.out.drew.trans hb2
      clear hwa2 ho2 hne2 hp2 hw2 hb2 HB1 HW1
      go_wp2_with fail
      go_end0
      refine ⟨rfl, ?_, (HB2.out.setCell (p := ⟨b, 2, none⟩) hB _).setCell (p := ⟨b, 3, none⟩) hB _⟩
      rw [HS.out]
      exact (HW2.out.set2 _).set3 _
  · have HS : Hid (stepB (o, l) bit = (o, l ++ [bit])) := by
      show _ = _
      simp [stepB, h7]
    obtain ⟨m, hm⟩ : ∃ m : Nat, m = l.length := ⟨_, rfl⟩
    rw [← hm] at c3 HWB h7
    have HM : Hid (m = l.length) := hm
    have hm7 : m < 7 := by omega
    clear hm hl8 h7
    go_enter Tryz.func90, Tryz.ntmps90
    go_wp2_with fail
    go_end0
    refine ⟨rfl, ?_, ((Below.refl B w).setCell (p := ⟨b, 2, none⟩) hB _).setCell (p := ⟨b, 3, none⟩) hB _⟩
    rw [HS.out]
    show WB B b o (.int .u8 ((valB (l ++ [bit]) : Nat) : Int)) (.int .i64 (((l ++ [bit]).length : Nat) : Int)) _
    rw [← HU.out, List.length_append, ← HM.out]
    exact (HWB.out.set2 _).set3 _

end Go.Proofs.YtifpidhoeikdjaaGreatDoor

set_option linter.unusedVariables false
namespace Go.Proofs.YtifpidhoeikdjaaGreatDoor
open Go.RowKit

set_option maxHeartbeats 1000000 in
set_option maxRecDepth 100000 in
theorem numberI (B b : Nat) (s : List UInt8 × List Nat) (n k : Nat) (w : World) (h : WR B b s w) (hok : okB s) (hn : n ≤ 60000) (hk : k ≤ 8) (hlen : s.1.length ≤ 1000000000) :
    Calls Tryz.prog 50 #[.pointer (some ⟨b, 0, none⟩), .int .i64 (n : Int), .int .i64 (k : Int)] w fun e w' => e = .returned (.tuple #[]) ∧ WR B b (runB s (numB k n)) w' ∧ Below B w w' := by
  obtain ⟨N, hN⟩ : ∃ N : Nat, N = n / 2 ^ k := ⟨_, rfl⟩
  have hNn : N ≤ 60000 := by rw [hN]; exact Nat.le_trans (Nat.div_le_self _ _) hn
  have HF : Hid (runB s (List.replicate N 1 ++ 0 :: lowB n k) = runB s (numB k n)) := by show _ = _; rw [hN]; rfl
  obtain ⟨F, hF⟩ : ∃ F, F = runB s (numB k n) := ⟨_, rfl⟩
  rw [← hF] at HF ⊢
  have rsh : (n : Int) / 2 ^ k = (N : Int) := by rw [hN]; simp
  clear hF hN
  go_enter Tryz.func50, Tryz.ntmps50
  have HS : Hid (WR B b s w ∧ okB s ∧ s.1.length ≤ 1000000000) := ⟨h, hok, hlen⟩
  clear h hok hlen
  go_wp2_with fail
  go_loopw [10] (fun i wr => ∃ (j : Nat) (c : List UInt8 × List Nat), j ≤ N ∧ i = .int .i64 (j : Int) ∧ Hid (runB c (List.replicate (N - j) 1 ++ 0 :: lowB n k) = F) ∧ Hid (okB c) ∧ Hid (c.1.length ≤ 1000000000 + j) ∧ Hid (WR B b c wr) ∧ Hid (Below B w wr)) (fun i _ => N - (intOf i).toNat)
  case atStart => exact ⟨0, s, by omega, rfl, HF, HS.out.2.1, HS.out.2.2, HS.out.1, Below.refl B w⟩
  case round =>
    obtain ⟨j, c, hj, rfl, HF, HO, HL, HW, HB⟩ := hrel
    by_cases hlt : j < N
    · go_wp2_with fail
      refine (bitI B b c 1 _ HW.out HO.out (by omega) (by have := HL.out; omega)).mono ?_
      rintro e w1 ⟨rfl, hw1, hb1⟩
      have HW1 : Hid (WR B b (stepB c 1) w1) := hw1
      have HB1 : Hid (Below B w w1) := HB.out.trans hb1
      clear hw1 hb1
      go_wp2_with fail
      go_roundw
      case rel =>
        refine ⟨j + 1, stepB c 1, by omega, by go_num, ?_, stepB_ok HO.out (by omega), ?_, HW1, HB1⟩
        · show _ = _
          rw [← HF.out, show N - j = (N - (j + 1)) + 1 from by omega, List.replicate_succ]
          rfl
        · have h1 := stepB_len c 1
          have h2 := HL.out
          show _ ≤ _
          omega
      case measure => simp [intOf]; omega
    · have HF1 : Hid (runB (stepB c 0) (lowB n k) = F) := by
        show _ = _
        rw [← HF.out, show N - j = 0 from by omega]
        rfl
      go_wp2_with fail
      refine (bitI B b c 0 _ HW.out HO.out (by omega) (by have := HL.out; omega)).mono ?_
      rintro e w1 ⟨rfl, hw1, hb1⟩
      have HW1 : Hid (WR B b (stepB c 0) w1) := hw1
      have HB1 : Hid (Below B w w1) := HB.out.trans hb1
      have HO1 : Hid (okB (stepB c 0)) := stepB_ok HO.out (by omega)
      have HL1 : Hid ((stepB c 0).1.length ≤ 1000000000 + 60001) := by
        have h1 := stepB_len c 0
        have h2 := HL.out
        show _ ≤ _
        omega
      clear hw1 hb1 HF HW HB HO HL
      obtain ⟨c1, hc1⟩ : ∃ c1, c1 = stepB c 0 := ⟨_, rfl⟩
      rw [← hc1] at HF1 HW1 HO1 HL1
      clear hc1 rsh hj hlt
      go_wp2_with fail
      go_loopw [6] (fun i wr => ∃ (r : Nat) (x : Int) (c : List UInt8 × List Nat), r ≤ k ∧ i = .int .i64 x ∧ Hid (x = (r : Int) - 1) ∧ Hid (runB c (lowB n r) = F) ∧ Hid (okB c) ∧ Hid (c.1.length ≤ 1000070001 - r) ∧ Hid (WR B b c wr) ∧ Hid (Below B w wr)) (fun i _ => (intOf i + 1).toNat)
      case atStart => exact ⟨k, _, c1, by omega, rfl, rfl, HF1, HO1, by have := HL1.out; show _ ≤ _; omega, HW1, HB1⟩
      case round =>
        clear HF1 HO1 HL1 HW1 HB1
        obtain ⟨r, x, c, hr, rfl, HX, HF, HO, HL, HW, HB⟩ := hrel
        rcases r with _ | m
        · have hx : ¬ (0 : Int) ≤ x := by have := HX.out; omega
          have HE : Hid (c = F) := HF.out
          go_wp2_with fail
          go_end0
          rw [← HE.out]
          exact ⟨rfl, HW.out, HB.out⟩
        · obtain rfl : x = (m : Int) := by have := HX.out; omega
          obtain ⟨q, hq⟩ : ∃ q : Nat, q = n / 2 ^ m := ⟨_, rfl⟩
          have rq : (n : Int) / 2 ^ m = (q : Int) := by rw [hq]; simp
          have hqn : q ≤ 60000 := by rw [hq]; exact Nat.le_trans (Nat.div_le_self _ _) hn
          obtain ⟨bt, hbt⟩ : ∃ bt : Nat, bt = q % 2 := ⟨_, rfl⟩
          have hb1 : bt ≤ 1 := by omega
          have rb : bits .and .i64 (q : Int) 1 = (bt : Int) := by
            have := (bits_nat .i64 63 (by decide) (fun m h0 h1 => by rw [IntKind.wrap_i64]; omega) q 1 (by omega) (by omega)).1
            rw [Nat.and_one_is_mod, ← hbt] at this
            exact this
          have rb2 : (q : Int) % 2 = (bt : Int) := by omega
          have HF2 : Hid (runB (stepB c bt) (lowB n m) = F) := by
            show _ = _
            rw [← HF.out, hbt, hq]
            rfl
          have hm0 : (0 : Int) ≤ (m : Int) := by omega
          clear hq hbt HX
          go_wp2_with fail
          refine (bitI B b c bt _ HW.out HO.out hb1 (by have := HL.out; omega)).mono ?_
          rintro e w2 ⟨rfl, hw2, hb2⟩
          have HW2 : Hid (WR B b (stepB c bt) w2) := hw2
          have HB2 : Hid (Below B w w2) := HB.out.trans hb2
          clear hw2 hb2
          go_wp2_with fail
          go_roundw
          case rel =>
            refine ⟨m, _, stepB c bt, by omega, rfl, ?_, HF2, stepB_ok HO.out hb1, ?_, HW2, HB2⟩
            · show _ = _
              first | rfl | omega
            · have h1 := stepB_len c bt
              have h2 := HL.out
              show _ ≤ _
              omega
          case measure => simp [intOf]

end Go.Proofs.YtifpidhoeikdjaaGreatDoor

set_option linter.unusedVariables false
namespace Go.Proofs.YtifpidhoeikdjaaGreatDoor
open Go.RowKit

def manyOf (b : Nat) (w : World) : Nat := match w.cell? ⟨b, 3, none⟩ with
  | some (.int _ z) => if z = 0 then 0 else (8 - z).toNat
  | _ => 0
theorem manyOf_eq {b : Nat} {w : World} {m : Nat} (h : w.cell? ⟨b, 3, none⟩ = some (.int .i64 (m : Int))) : manyOf b w = if m = 0 then 0 else 8 - m := by
  simp only [manyOf, h]
  by_cases h0 : m = 0
  · simp [h0]
  · rw [if_neg (by omega), if_neg h0]; omega
theorem WR.c3 {B b : Nat} {s : List UInt8 × List Nat} {w : World} (h : WR B b s w) : w.cell? ⟨b, 3, none⟩ = some (.int .i64 (s.2.length : Int)) := by
  obtain ⟨_, p, v, _, hw, _⟩ := h
  exact hw.c3

set_option maxHeartbeats 1000000 in
set_option maxRecDepth 100000 in
theorem fillI (B b : Nat) (s : List UInt8 × List Nat) (w : World) (h : WR B b s w) (hok : okB s) (hlen : s.1.length ≤ 1000000000) :
    Calls Tryz.prog 51 #[.pointer (some ⟨b, 0, none⟩)] w fun e w' => e = .returned (.tuple #[]) ∧ WR B b (fillB s, []) w' ∧ Below B w w' := by
  have HS : Hid (WR B b s w ∧ okB s ∧ s.1.length ≤ 1000000000) := ⟨h, hok, hlen⟩
  clear h hok hlen
  go_enter Tryz.func51, Tryz.ntmps51
  go_wp2_with fail
  go_loopw [] (fun wr => ∃ c : List UInt8 × List Nat, Hid (fillB c = fillB s) ∧ Hid (okB c) ∧ Hid (c.1.length ≤ 1000000009 - manyOf b wr) ∧ Hid (WR B b c wr) ∧ Hid (Below B w wr)) (fun wr => manyOf b wr)
  case atStart =>
    refine ⟨s, rfl, HS.out.2.1, ?_, HS.out.1, Below.refl B w⟩
    have h1 := manyOf_eq HS.out.1.c3
    have h2 := HS.out.2.2
    show _ ≤ _
    split at h1 <;> omega
  case round =>
    obtain ⟨c, HF, HO, HL, HW, HB⟩ := hrel
    have c3 := HW.out.c3
    have Hm := manyOf_eq c3
    by_cases h0 : c.2.length = 0
    · have hx : ¬ (0 : Int) < (c.2.length : Int) := by omega
      have HE : Hid (c = (fillB s, [])) := by
        show _ = _
        have h1 : c.2 = [] := List.length_eq_zero_iff.1 h0
        rw [← HF.out, fillB_end h1, ← h1]
      clear h0 Hm
      go_wp2_with fail
      go_end0
      rw [← HE.out]
      exact ⟨rfl, HW.out, HB.out⟩
    · have hx : (0 : Int) < (c.2.length : Int) := by omega
      have HM : Hid (manyOf b wr = 8 - c.2.length) := by show _ = _; rw [Hm, if_neg h0]
      have HN : Hid (¬ c.2.length = 0) := h0
      clear h0 Hm
      go_wp2_with fail
      refine (bitI B b c 0 _ HW.out HO.out (by omega) (by have := HL.out; omega)).mono ?_
      rintro e w1 ⟨rfl, hw1, hb1⟩
      have HW1 : Hid (WR B b (stepB c 0) w1) := hw1
      have HB1 : Hid (Below B w w1) := HB.out.trans hb1
      have HM1 : Hid (manyOf b w1 < 8 - c.2.length) := by
        show _ < _
        have h8 := HO.out.1
        have hn := HN.out
        rw [manyOf_eq hw1.c3]
        unfold stepB
        split
        · simp; omega
        · simp; omega
      have HL1 : Hid ((stepB c 0).1.length ≤ 1000000009 - manyOf b w1) := by
        have h1 := stepB_len c 0
        have h2 := HL.out
        have h3 := HM.out
        have h4 := HM1.out
        show _ ≤ _
        omega
      clear hw1 hb1 c3 hx
      go_wp2_with fail
      go_roundw
      case rel =>
        refine ⟨stepB c 0, ?_, stepB_ok HO.out (by omega), HL1, HW1, HB1⟩
        show _ = _
        rw [← HF.out]
        exact fillB_step HO.out.1 (fun e => HN.out (by rw [e]; rfl))
      case measure => rw [HM.out]; exact HM1.out

end Go.Proofs.YtifpidhoeikdjaaGreatDoor

set_option linter.unusedVariables false
namespace Go.Proofs.YtifpidhoeikdjaaGreatDoor
open Go.RowKit

set_option maxHeartbeats 1000000 in
set_option maxRecDepth 100000 in
theorem bitsOkI (k : Int) (w : World) :
    Calls Tryz.prog 89 #[.int .i64 k] w fun e w' => e = .returned (.bool (bitsOk k)) ∧ w = w' := by
  by_cases h1 : (0 : Int) ≤ k
  · by_cases h2 : k ≤ 8
    · have h3 : bitsOk k = true := decide_eq_true ⟨h1, h2⟩
      rw [h3]
      go_enter Tryz.func89, Tryz.ntmps89
      go_wp2
      go_ret
      exact ⟨rfl, rfl⟩
    · have h3 : bitsOk k = false := decide_eq_false (fun h => h2 h.2)
      have h4 : decide (k ≤ 8) = false := decide_eq_false h2
      rw [h3]
      go_enter Tryz.func89, Tryz.ntmps89
      go_wp2
      go_ret
      exact ⟨rfl, rfl⟩
  · have h3 : bitsOk k = false := decide_eq_false (fun h => h1 h.1)
    have h4 : decide ((0 : Int) ≤ k) = false := decide_eq_false h1
    rw [h3]
    go_enter Tryz.func89, Tryz.ntmps89
    go_wp2
    go_ret
    exact ⟨rfl, rfl⟩

set_option maxHeartbeats 1000000 in
set_option maxRecDepth 100000 in
theorem riceOkI (g n cap : Nat) (zs : List Int) (k : Int) (w : World) (h : At w g zs) (hn : n = zs.length) :
    Calls Tryz.prog 49 #[.slice (some ⟨g, 0, none⟩) n cap, .int .i64 k] w fun e w' => e = .returned (.bool (riceOkB zs k)) ∧ w = w' := by
  have HA : Hid (At w g zs) := h
  have HN : Hid (n = zs.length) := hn
  clear h hn
  by_cases h40 : (40 : Int) < (n : Int)
  · have HF : Hid (riceOkB zs k = false) := by
      show _ = _
      cases hh : riceOkB zs k with
      | false => rfl
      | true => have := riceOk_len hh; have := HN.out; omega
    rw [HF.out]
    go_enter Tryz.func49, Tryz.ntmps49
    go_wp2
    go_ret
    exact ⟨rfl, rfl⟩
  · cases hb : bitsOk k with
    | false =>
      have HF : Hid (riceOkB zs k = false) := by show _ = _; simp [riceOkB, hb]
      rw [HF.out]
      go_enter Tryz.func49, Tryz.ntmps49
      go_wp2_with (go_at_call 89; refine (bitsOkI _ _).mono ?_; rintro e w1 ⟨rfl, rfl⟩)
      go_ret
      exact ⟨rfl, rfl⟩
    | true =>
      have hk := of_decide_eq_true hb
      go_enter Tryz.func49, Tryz.ntmps49
      go_wp2_with (go_at_call 89; refine (bitsOkI _ _).mono ?_; rintro e w1 ⟨rfl, rfl⟩)
      go_loop [17] (fun i => ∃ j : Nat, j ≤ n ∧ i = .int .i64 (j : Int) ∧ Hid (∀ m, m < zs.length → m < j → 0 ≤ zs.getD m 0 ∧ zs.getD m 0 ≤ 60000)) (fun i => n - (intOf i).toNat)
      case atStart => exact ⟨0, by omega, rfl, fun m _ h => by omega⟩
      case round =>
        obtain ⟨j, hj, rfl, HALL⟩ := hrel
        by_cases hlt : j < n
        · have hjz : j < zs.length := by rw [← HN.out]; exact hlt
          have cj := HA.out.2 j hjz
          by_cases hz : 0 ≤ zs.getD j 0 ∧ zs.getD j 0 ≤ 60000
          · have HZ2 : Hid (0 ≤ zs.getD j 0 ∧ zs.getD j 0 ≤ 60000) := hz
            generalize zs.getD j 0 = z at cj hz
            have hz0 : ¬ z < 0 := by omega
            have hz1 : ¬ 60000 < z := by omega
            clear hz hjz
            go_wp2
            go_round
            case rel =>
              refine ⟨j + 1, by omega, by go_num, ?_⟩
              intro m hm hmj
              rcases Nat.lt_or_ge m j with h | h
              · exact HALL.out m hm h
              · obtain rfl : m = j := by omega
                exact HZ2.out
            case measure => simp [intOf]; omega
          · have HNO : Hid (riceOkB zs k = false) := riceOk_no j hjz hz
            generalize zs.getD j 0 = z at cj hz
            by_cases hz0 : z < 0
            · go_wp2
              go_ret
              rw [HNO.out]
              exact ⟨rfl, rfl⟩
            · have hz1 : 60000 < z := by omega
              go_wp2
              go_ret
              rw [HNO.out]
              exact ⟨rfl, rfl⟩
        · have HY : Hid (riceOkB zs k = true) := riceOk_yes (by rw [← HN.out]; omega) hk (fun m hm => HALL.out m hm (by have := HN.out; omega))
          go_wp2
          go_ret
          rw [HY.out]
          exact ⟨rfl, rfl⟩

theorem writerNew (w : World) : WR w.heap.size w.heap.size ([], []) (w.alloc (.cells #[.pointer none, .slice none 0 0, .int .u8 0, .int .i64 0] 67)) :=
  ⟨Nat.le_refl _, _, _, .inl rfl, heap_alloc_new w _, ⟨rfl, .inl ⟨rfl, rfl⟩⟩, by simp [Value.ownBlock], fun _ => rfl⟩

set_option maxHeartbeats 1000000 in
set_option maxRecDepth 100000 in
theorem implRicePut (g n cap : Nat) (zs : List Int) (k : Int) (w : World) (h : At w g zs) (hn : n = zs.length) :
    Calls Tryz.prog 23 #[.slice (some ⟨g, 0, none⟩) n cap, .int .i64 k] w fun e w' => e = .returned (.string ⟨(ricePut zs k).toArray⟩) ∧ Below w.heap.size w w' := by
  have HA : Hid (At w g zs) := h
  have HN : Hid (n = zs.length) := hn
  have hgs := h.1
  clear h hn
  cases hr : riceOkB zs k with
  | false =>
    rw [ricePut_no hr]
    go_enter Tryz.func23, Tryz.ntmps23
    go_wp2_with (go_at_call 49; refine (riceOkI g n cap zs k _ HA.out HN.out).mono ?_; rintro e w1 ⟨rfl, rfl⟩)
    go_ret
    exact ⟨rfl, Below.refl _ _⟩
  | true =>
    rw [ricePut_yes hr]
    have hb := riceOk_bits hr
    obtain ⟨kn, rfl⟩ := Int.eq_ofNat_of_zero_le hb.1
    have hk8 : kn ≤ 8 := by omega
    have hl40 := riceOk_len hr
    have HZ : Hid (∀ i, i < zs.length → 0 ≤ zs.getD i 0 ∧ zs.getD i 0 ≤ 60000) := fun i hi => riceOk_at hr i hi
    have HE : Hid (fillB (upTo kn zs zs.length) = riceB ((kn : Int)).toNat (zs.map Int.toNat)) := by show _ = _; rw [upTo_end, Int.toNat_natCast]
    obtain ⟨R, hR⟩ : ∃ R, R = riceB ((kn : Int)).toNat (zs.map Int.toNat) := ⟨_, rfl⟩
    rw [← hR] at HE ⊢
    have HW0 : Hid (WR w.heap.size w.heap.size (upTo kn zs 0) (w.alloc (.cells #[.pointer none, .slice none 0 0, .int .u8 0, .int .i64 0] 67))) := by rw [upTo_zero]; exact writerNew w
    have HB0 : Hid (Below w.heap.size w (w.alloc (.cells #[.pointer none, .slice none 0 0, .int .u8 0, .int .i64 0] 67))) := (Below.refl _ w).alloc (Nat.le_refl _) _
    clear hR hb
    go_enter Tryz.func23, Tryz.ntmps23
    go_wp2_with (go_at_call 49; refine (riceOkI g n cap zs _ _ HA.out HN.out).mono ?_; rintro e w1 ⟨rfl, rfl⟩)
    clear hr
    have hn40 : n ≤ 40 := by rw [HN.out]; exact hl40
    have HL : Hid (∀ i, (upTo kn zs i).1.length ≤ 10000000) := fun i => upTo_len hk8 hl40 HZ.out i
    go_loopw [14] (fun i wr => ∃ j : Nat, j ≤ n ∧ i = .int .i64 (j : Int) ∧ Hid (WR w.heap.size w.heap.size (upTo kn zs j) wr) ∧ Hid (Below w.heap.size w wr)) (fun i _ => n - (intOf i).toNat)
    case atStart => exact ⟨0, by omega, rfl, HW0, HB0⟩
    case round =>
      clear HW0 HB0
      obtain ⟨j, hj, rfl, HW, HB⟩ := hrel
      by_cases hlt : j < n
      · have hjz : j < zs.length := by rw [← HN.out]; exact hlt
        have HJN : Hid (j + 1 ≤ n) := hlt
        have cj := (HA.out.below HB.out hgs).2 j hjz
        have hz := HZ.out j hjz
        have HS : Hid (upTo kn zs (j + 1) = runB (upTo kn zs j) (numB kn (zs.getD j 0).toNat)) := upTo_succ kn zs j hjz
        generalize zs.getD j 0 = z at cj hz HS
        obtain ⟨zn, rfl⟩ := Int.eq_ofNat_of_zero_le hz.1
        rw [Int.toNat_natCast] at HS
        have hzn : zn ≤ 60000 := by omega
        clear hz hjz
        go_wp2_with fail
        refine (numberI w.heap.size w.heap.size (upTo kn zs j) zn kn _ HW.out (upTo_ok _ _ _) hzn hk8 (by have := HL.out j; omega)).mono ?_
        rintro e w2 ⟨rfl, hw2, hb2⟩
        have HW2 : Hid (WR w.heap.size w.heap.size (upTo kn zs (j + 1)) w2) := by rw [HS.out]; exact hw2
        have HB2 : Hid (Below w.heap.size w w2) := HB.out.trans hb2
        clear hw2 hb2 cj
        go_wp2_with fail
        go_roundw
        case rel => exact ⟨j + 1, HJN.out, by go_num, HW2, HB2⟩
        case measure => have := HJN.out; simp [intOf]; omega
      · have HJ : Hid (upTo kn zs j = upTo kn zs zs.length) := by
          show _ = _
          rw [show j = zs.length from by rw [← HN.out]; omega]
        go_wp2_with fail
        refine (fillI w.heap.size w.heap.size (upTo kn zs j) _ HW.out (upTo_ok _ _ _) (by have := HL.out j; omega)).mono ?_
        rintro e w2 ⟨rfl, hw2, hb2⟩
        rw [HJ.out, HE.out] at hw2
        have HW2 : Hid (WR w.heap.size w.heap.size (R, []) w2) := hw2
        have HB2 : Hid (Below w.heap.size w w2) := HB.out.trans hb2
        clear hw2 hb2
        go_wp2_with fail
        refine (stringW w.heap.size w.heap.size R _ _ _ HW2.out).mono ?_
        rintro e w3 ⟨rfl, hb3⟩
        go_wp2_with fail
        go_ret
        exact ⟨rfl, HB2.out.trans hb3⟩

end Go.Proofs.YtifpidhoeikdjaaGreatDoor

set_option linter.unusedVariables false
namespace Go.Proofs.YtifpidhoeikdjaaGreatDoor
open Go.RowKit

theorem own_at {w : World} {B g n c : Nat} {ss : List ByteArray} (h : w.ownsRow B 9 1 (.slice (some ⟨g, 0, none⟩) n c) n (ss.map Value.string)) : AtS w g ss := by
  have hn : n = ss.length := by simpa using h.1.symm
  subst hn
  refine ⟨(h.lt g rfl).2, fun i hi => ?_⟩
  rw [h.cellAt i (by simpa using hi)]
  simp [List.getElem?_eq_getElem hi]
theorem varPut_nat {n : Nat} (h : n ≤ 2147483647) : varPut (n : Int) = varB 4 n := by
  rw [varPut, if_pos (by omega)]
  simp
theorem ricePut_gaps {gl : List Int} (h : gl.length ≤ 40 ∧ ∀ i, i < gl.length → 0 ≤ gl.getD i 0 ∧ gl.getD i 0 ≤ 60000) : ricePut gl 5 = riceB 5 (gl.map Int.toNat) :=
  ricePut_yes (riceOk_yes h.1 (by omega) h.2)

set_option maxHeartbeats 2000000 in
set_option maxRecDepth 100000 in
theorem implFilterOf (g n cap : Nat) (ss : List ByteArray) (k : ByteArray) (w : World) (h : AtS w g ss) (hn : n = ss.length) (hK : RowG w shaK) :
    Calls Tryz.prog 8 #[.string k, .slice (some ⟨g, 0, none⟩) n cap] w fun e w' => e = .returned (.string ⟨(filterOf k.data.toList ss).toArray⟩) ∧ Below w.heap.size w w' := by
  cases h1 : isSum k.data.toList with
  | false =>
    rw [filterOf_no1 h1]
    clear h hn hK
    go_enter Tryz.func8, Tryz.ntmps8
    go_wp2_with (go_at_call 15; refine (implSumOk _ _).mono ?_; rintro e w1 ⟨rfl, rfl⟩)
    go_ret
    exact ⟨rfl, Below.refl _ _⟩
  | true =>
  have hit := implItemsOk g n cap ss w h hn
  cases h2 : itemsOkB ss with
  | false =>
    rw [filterOf_no2 h2]
    rw [h2] at hit
    clear h hn hK
    go_enter Tryz.func8, Tryz.ntmps8
    go_wp2_with first
      | (go_at_call 15; refine (implSumOk _ _).mono ?_; rintro e w1 ⟨rfl, rfl⟩)
      | (go_at_call 16; refine hit.mono ?_; rintro e w1 ⟨rfl, rfl⟩)
    go_ret
    exact ⟨rfl, Below.refl _ _⟩
  | true =>
  rw [filterOf_yes h1 h2]
  rw [h2] at hit
  have hn40 : n ≤ 40 := by rw [hn]; exact itemsOk_len h2
  have hclone := cloneS g n cap ss w h hn hn40
  have HGO : Hid ((gapsL k.data.toList ss).length ≤ 40 ∧ ∀ i, i < (gapsL k.data.toList ss).length → 0 ≤ (gapsL k.data.toList ss).getD i 0 ∧ (gapsL k.data.toList ss).getD i 0 ≤ 60000) := gaps_ok h1 h2
  have HPI : Hid (∀ z ∈ sortL (placesL k.data.toList ss), 0 ≤ z ∧ z ≤ 1480) := fun z hz => places_in h1 h2 z ((sortL_mem _ z).1 hz)
  have hm40 : (setL ss).length ≤ 40 := Nat.le_trans (setL_length ss) (itemsOk_len h2)
  have HFB : Hid (filterB k.data.toList ss = varB 4 (setL ss).length ++ riceB 5 ((gapsL k.data.toList ss).map Int.toNat)) := rfl
  have HPL : Hid (placesL k.data.toList ss = (setL ss).map fun it => filterTo k.data.toList it.data.toList (((setL ss).length : Int) * 37)) := rfl
  have HGL : Hid (gapsL k.data.toList ss = gapsZ 0 (sortL (placesL k.data.toList ss))) := rfl
  have HKG : Hid (RowG w shaK) := hK
  have hcomp := fun g1 c1 w1 w2 hc hs => compactS g1 n c1 ss w w1 w2 hc hs
  generalize gapsL k.data.toList ss = gl at HGO HFB HGL
  generalize placesL k.data.toList ss = pl at HPI HPL HGL
  generalize filterB k.data.toList ss = fb at HFB ⊢
  generalize setL ss = st at hm40 HFB HPL hcomp
  obtain ⟨i0, hi, hz0, hz1, hz2⟩ := info_parts infoIntG
  obtain ⟨m, hm⟩ : ∃ m, m = st.length := ⟨_, rfl⟩
  rw [← hm] at hm40 HFB HPL hcomp
  have HM : Hid (m = st.length) := hm
  have hmk := makeCap m (by omega)
  clear h hn hm h2 hK
  go_enter Tryz.func8, Tryz.ntmps8
  go_wp2_with first
    | (go_at_call 15; refine (implSumOk _ _).mono ?_; rintro e w1 ⟨rfl, rfl⟩)
    | (go_at_call 16; refine hit.mono ?_; rintro e w1 ⟨rfl, rfl⟩)
  clear hit
  refine hclone.mono ?_
  rintro e w1 ⟨g1, c1, rfl, hc1⟩
  have HC : Hid (Cloned w.heap.size g1 n c1 ss w w1) := hc1
  clear hclone hc1
  go_wp2_with fail
  refine (sortS _ g1 n c1 ss w w1 HC.out hn40).mono ?_
  rintro e w2 ⟨rfl, hs2⟩
  have HS : Hid (SortedS g1 ss w1 w2) := hs2
  clear hs2
  go_wp2_with fail
  refine (hcomp g1 c1 w1 w2 HC.out HS.out).mono ?_
  rintro e w3 ⟨rfl, hown3, hb3⟩
  have HAS : Hid (AtS w3 g1 st) := own_at hown3
  have HB3 : Hid (Below w.heap.size w w3) := hb3
  have HK3 : Hid (RowG w3 shaK) := HKG.out.below hb3 HKG.out.lt
  clear hown3 hb3 hcomp HC HS
  go_wp2_with fail
  have HW0 : Hid (ZRow w3.heap.size (.slice (some ⟨w3.heap.size, 0, none⟩) 0 m) (pl.take 0) (w3.alloc (.cells (madeCells #[.int .i64 0] m) 3))) :=
    ⟨⟨_, _, rfl⟩, rfl, .inr ⟨_, _, _, rfl, Nat.le_refl _, World.alloc_heap_new w3 _, Nat.zero_le _, by unfold maxLen; omega, by rw [size_madeCells]; omega, rfl⟩⟩
  have HB0 : Hid (Below w3.heap.size w3 (w3.alloc (.cells (madeCells #[.int .i64 0] m) 3))) := (Below.refl _ w3).alloc (Nat.le_refl _) _
  have HPLL : Hid (pl.length = m) := by show _ = _; rw [HPL.out, List.length_map]; exact HM.out.symm
  clear hmk
  go_loopw [6, 28] (fun v i wr => ∃ (q g3 c3 : Nat), q ≤ m ∧ i = .int .i64 (q : Int) ∧ v = .slice (some ⟨g3, 0, none⟩) q c3 ∧ Hid (ZRow w3.heap.size v (pl.take q) wr) ∧ Hid (Below w3.heap.size w3 wr)) (fun _ i _ => m - (intOf i).toNat)
  case atStart => exact ⟨0, w3.heap.size, m, by omega, rfl, rfl, HW0, HB0⟩
  case round =>
    clear HW0 HB0
    obtain ⟨q, g3, c3, hq, rfl, rfl, HR, HB⟩ := hrel
    have hszr := HB.out.size
    by_cases hlt : q < m
    · have hql : q < st.length := by rw [← HM.out]; exact hlt
      have hc : wr.cell? ⟨g1, q, none⟩ = some (.string (st.getD q ByteArray.empty)) := by
        rw [HB.out.cell (p := ⟨g1, q, none⟩) HAS.out.1]
        exact HAS.out.2 q hql
      have hto := implFilterTo k (st.getD q ByteArray.empty) ((m : Int) * 37) wr (HK3.out.below HB.out HK3.out.lt)
      have HE : Hid (pl.take (q + 1) = pl.take q ++ [filterTo k.data.toList (st.getD q ByteArray.empty).data.toList ((m : Int) * 37)]) := by
        show _ = _
        rw [List.take_add_one, HPL.out, List.getElem?_map, List.getElem?_eq_getElem hql, List.getD_eq_getElem?_getD, List.getElem?_eq_getElem hql]
        rfl
      generalize filterTo k.data.toList (st.getD q ByteArray.empty).data.toList ((m : Int) * 37) = z at hto HE
      generalize st.getD q ByteArray.empty = it at hc hto
      have HRW : Hid (wr.ownsRow w3.heap.size 3 1 (.slice (some ⟨g3, 0, none⟩) q c3) q ((pl.take q).map (Value.int .i64))) := by
        have h5 := HR.out.2
        have h6 : (pl.take q).length = q := by rw [List.length_take, HPLL.out]; omega
        rw [h6] at h5
        exact h5
      have HQ : Hid (q + 1 ≤ m) := hlt
      have lq : (q : Int) < (m : Int) := by omega
      have lq0 : (0 : Int) ≤ (q : Int) := by omega
      have hx1 : q + 1 ≤ maxLen := by unfold maxLen; omega
      have hx2 : (q + 1) * 8 ≤ 140737488355328 := by omega
      clear hql
      go_wp2_with fail
      refine hto.mono ?_
      rintro e w4 ⟨rfl, b4⟩
      have HRW2 : Hid (w4.ownsRow w3.heap.size 3 1 (.slice (some ⟨g3, 0, none⟩) q c3) q ((pl.take q).map (Value.int .i64))) := ownsRow_keep HRW.out (fun g' hg' => by
        obtain ⟨cur, hcc, hl⟩ := ownsRow_type HRW.out g' hg'
        exact b4.block g' hl)
      have HB2 : Hid (Below w3.heap.size w3 w4) := HB.out.trans (b4.mono HB.out.size)
      have hs2 := HB2.out.size
      clear b4 hto
      go_wp2_with (at_builtin; refine wp_app1 rfl _ _ 36 rfl w3.heap.size 3 i0 (.int .i64 0) 8 Tryz.underlying36 hi hz0 hz1 hz2 rfl _ _ _ rfl HRW2.out (.int .i64 z) rfl rfl hx1 hx2 hs2 ?_; intro g4 c4 w5 hown4 hb4 _)
      have HR4 : Hid (ZRow w3.heap.size (.slice (some ⟨g4, 0, none⟩) (q + 1) c4) (pl.take (q + 1)) w5) := by
        refine ZRow.of ?_ (by rw [List.length_take, HPLL.out]; have := HQ.out; omega)
        rw [HE.out, List.map_append]
        exact hown4
      clear hown4
      go_roundw
      case rel => exact ⟨q + 1, g4, c4, HQ.out, by go_num, rfl, HR4, HB2.out.trans hb4⟩
      case measure => have := HQ.out; simp [intOf]; omega
    · obtain rfl : q = m := by omega
      have HRA : Hid (ZRow w3.heap.size (.slice (some ⟨g3, 0, none⟩) q c3) pl wr) := by
        have h5 := HR.out
        rw [List.take_of_length_le (by rw [HPLL.out]; exact Nat.le_refl _)] at h5
        exact h5
      have hsort := sortI w3.heap.size g3 q c3 pl wr HRA.out hszr hm40
      have HSL : Hid ((sortL pl).length = q) := by show _ = _; rw [sortL_length]; exact HPLL.out
      have HBw : Hid (Below w.heap.size w wr) := HB3.out.trans (HB.out.mono HB3.out.size)
      generalize sortL pl = so at hsort HPI HGL HSL
      have hvar := fun w' => implVarPut (q : Int) w'
      rw [varPut_nat (by omega)] at hvar
      have HRP : Hid (ricePut gl 5 = riceB 5 (gl.map Int.toNat)) := ricePut_gaps HGO.out
      have hrice := fun g' c' w' h' (hn : q = gl.length) => implRicePut g' q c' gl 5 w' h' hn
      rw [HRP.out] at hrice
      have hlr : (riceB 5 (gl.map Int.toNat)).length ≤ 300100 := by
        have h5 := ricePut_len gl 5
        rw [HRP.out] at h5
        exact h5
      have hlv := (varB_length 4 q).2
      generalize (riceB 5 (gl.map Int.toNat)) = rb at hrice HFB hlr HRP
      generalize varB 4 q = vb at hvar HFB hlv
      have HEQ : Hid ((⟨vb.toArray⟩ ++ ⟨rb.toArray⟩ : ByteArray) = ⟨fb.toArray⟩) := by
        show _ = _
        rw [HFB.out]
        apply ByteArray.ext
        simp
      clear HR
      go_wp2_with fail
      refine hsort.mono ?_
      rintro e w5 ⟨rfl, hr5, b5⟩
      have HR5 : Hid (ZRow w3.heap.size (.slice (some ⟨g3, 0, none⟩) q c3) so w5) := hr5
      have HB5 : Hid (Below w3.heap.size w3 w5) := HB.out.trans b5
      clear hsort hr5 b5 hszr
      go_wp2_with fail
      refine (hvar _).mono ?_
      rintro e w6 ⟨rfl, b6⟩
      have HA6 : Hid (At w6 g3 so) := HR5.out.at.1.below b6 HR5.out.at.1.1
      have HB6 : Hid (Below w3.heap.size w3 w6) := HB5.out.trans (b6.mono HB5.out.size)
      clear b6 hvar
      go_wp2_with fail
      refine (implSteps g3 q c3 so w6 HA6.out HSL.out.symm hm40 HPI.out).mono ?_
      rintro e w7 ⟨v7, rfl, hr7, b7⟩
      rw [← HGL.out] at hr7
      obtain ⟨g7, c7, rfl⟩ := hr7.1
      have HGLN : Hid (q = gl.length) := by show _ = _; rw [HGL.out, gapsZ_length]; exact HSL.out.symm
      rw [← HGLN.out] at hr7 ⊢
      have HA7 : Hid (At w7 g7 gl) := hr7.at.1
      have HB7 : Hid (Below w3.heap.size w3 w7) := HB6.out.trans (b7.mono HB6.out.size)
      clear hr7 b7
      go_wp2_with fail
      refine (hrice g7 c7 w7 HA7.out HGLN.out).mono ?_
      rintro e w8 ⟨rfl, b8⟩
      have HB8 : Hid (Below w.heap.size w w8) := HB3.out.trans ((HB7.out.trans (b8.mono HB7.out.size)).mono HB3.out.size)
      clear hrice b8
      go_wp2_with fail
      go_ret
      refine ⟨?_, HB8.out⟩
      rw [← HEQ.out]
      rfl

end Go.Proofs.YtifpidhoeikdjaaGreatDoor

set_option linter.unusedVariables false
namespace Go.Proofs.YtifpidhoeikdjaaGreatDoor
open Go.RowKit

def bitAt (o : List UInt8) (p : Nat) : Int := if p < 8 * o.length then (((o.getD (p / 8) 0).toNat / 2 ^ (7 - p % 8) % 2 : Nat) : Int) else -1
theorem byteBits_at (c : UInt8) (p : Nat) (hp : p < 8) : (byteBits c).getD p 0 = c.toNat / 2 ^ (7 - p) % 2 := by
  match p, hp with
  | 0, _ | 1, _ | 2, _ | 3, _ | 4, _ | 5, _ | 6, _ => rfl
  | 7, _ => simp [byteBits]
theorem unpack_at (o : List UInt8) : ∀ p, p < 8 * o.length → (unpack o).getD p 0 = (o.getD (p / 8) 0).toNat / 2 ^ (7 - p % 8) % 2 := by
  induction o with
  | nil => intro p hp; simp at hp
  | cons c r ih =>
    intro p hp
    have hu : unpack (c :: r) = byteBits c ++ unpack r := rfl
    have hl : (byteBits c).length = 8 := rfl
    rw [hu]
    rcases Nat.lt_or_ge p 8 with h | h
    · have e : p / 8 = 0 := by omega
      rw [List.getD_eq_getElem?_getD, List.getElem?_append_left (by omega), ← List.getD_eq_getElem?_getD, byteBits_at c p h, e, show p % 8 = p from by omega]
      rfl
    · have e : p / 8 = (p - 8) / 8 + 1 := by omega
      have hp' : p - 8 < 8 * r.length := by simp at hp; omega
      rw [List.getD_eq_getElem?_getD, List.getElem?_append_right (by omega), hl, ← List.getD_eq_getElem?_getD, ih (p - 8) hp', e, show (p - 8) % 8 = p % 8 from by omega]
      rfl
theorem bitAt_in {o : List UInt8} {p : Nat} (hp : p < 8 * o.length) : bitAt o p = (((unpack o).getD p 0 : Nat) : Int) := by
  rw [bitAt, if_pos hp, unpack_at o p hp]
theorem bitAt_out {o : List UInt8} {p : Nat} (hp : ¬ p < 8 * o.length) : bitAt o p = -1 := by rw [bitAt, if_neg hp]
theorem bitAt_range (o : List UInt8) (p : Nat) : -1 ≤ bitAt o p ∧ bitAt o p ≤ 1 := by
  unfold bitAt
  split <;> omega

end Go.Proofs.YtifpidhoeikdjaaGreatDoor

set_option linter.unusedVariables false
namespace Go.Proofs.YtifpidhoeikdjaaGreatDoor
open Go.Shelf Go.RowKit

/-- A list that is written just so. -/
def Writes (k many : Nat) (o : List UInt8) (l : List Nat) : Prop := l.length = many ∧ (∀ x ∈ l, x ≤ 60000) ∧ riceB k l = o
theorem writes_one {k many : Nat} {o : List UInt8} {l : List Nat} (h : Writes k many o l) : readT k many (unpack o) (0, false, 0) [] = l := by
  rw [← h.2.2, ← h.1]
  exact readT_rice k l
/-- The place at which the j-th number begins. -/
def placeOf (k : Nat) (l : List Nat) (j : Nat) : Nat := (bitsOf k (l.take j)).length
theorem placeOf_zero (k : Nat) (l : List Nat) : placeOf k l 0 = 0 := by simp [placeOf, bitsOf]
theorem placeOf_succ (k : Nat) (l : List Nat) (j : Nat) (hj : j < l.length) : placeOf k l (j + 1) = placeOf k l j + (numB k (l.getD j 0)).length := by
  have : l.take (j + 1) = l.take j ++ [l.getD j 0] := by
    rw [List.take_add_one, List.getElem?_eq_getElem hj]
    simp [List.getElem?_eq_getElem hj]
  rw [placeOf, this, bitsOf_snoc, List.length_append]
  rfl
theorem num_at {k many : Nat} {o : List UInt8} {l : List Nat} (h : Writes k many o l) (j : Nat) (hj : j < many) (q : Nat) (hq : q < (numB k (l.getD j 0)).length) :
    placeOf k l j + q < 8 * o.length ∧ bitAt o (placeOf k l j + q) = (((numB k (l.getD j 0)).getD q 0 : Nat) : Int) := by
  obtain ⟨z, _, hu⟩ := unpack_rice k l
  rw [h.2.2] at hu
  have hjl : j < l.length := by rw [h.1]; exact hj
  have hsplit : bitsOf k l = bitsOf k (l.take j) ++ (numB k (l.getD j 0) ++ bitsOf k (l.drop (j + 1))) := by
    have e : l = l.take j ++ (l.getD j 0 :: l.drop (j + 1)) := by
      have e2 : l.getD j 0 = l[j] := by rw [List.getD_eq_getElem?_getD, List.getElem?_eq_getElem hjl]; rfl
      rw [e2, ← List.drop_eq_getElem_cons hjl, List.take_append_drop]
    conv => lhs; rw [e]
    simp [bitsOf]
  have hul : (unpack o).length = 8 * o.length := unpack_length o
  rw [hsplit] at hu
  have hlen : placeOf k l j + q < (unpack o).length := by
    rw [hu]
    simp only [List.length_append, placeOf]
    omega
  refine ⟨by omega, ?_⟩
  rw [bitAt_in (by omega), hu]
  congr 1
  rw [List.append_assoc, List.getD_eq_getElem?_getD, List.getElem?_append_right (by simp only [placeOf]; omega)]
  rw [show placeOf k l j + q - (bitsOf k (l.take j)).length = q from by simp only [placeOf]; omega]
  rw [List.append_assoc, List.getElem?_append_left hq, ← List.getD_eq_getElem?_getD]
theorem numB_one (k x q : Nat) (h : q < x / 2 ^ k) : (numB k x).getD q 0 = 1 := by
  rw [numB, List.getD_eq_getElem?_getD, List.getElem?_append_left (by simpa using h)]
  simp [h]
theorem numB_nought (k x : Nat) : (numB k x).getD (x / 2 ^ k) 0 = 0 := by
  rw [numB, List.getD_eq_getElem?_getD, List.getElem?_append_right (by simp)]
  simp
theorem lowB_at (x : Nat) : ∀ (k i : Nat), i < k → (lowB x k).getD i 0 = x / 2 ^ (k - 1 - i) % 2 := by
  intro k
  induction k with
  | zero => intro i hi; omega
  | succ k ih =>
    intro i hi
    cases i with
    | zero => rfl
    | succ i =>
      have := ih i (by omega)
      rw [show lowB x (k + 1) = (x / 2 ^ k % 2) :: lowB x k from rfl]
      rw [List.getD_cons_succ, this, show k + 1 - 1 - (i + 1) = k - 1 - i from by omega]
theorem numB_low (k x i : Nat) (h : i < k) : (numB k x).getD (x / 2 ^ k + 1 + i) 0 = x / 2 ^ (k - 1 - i) % 2 := by
  rw [numB, List.getD_eq_getElem?_getD, List.getElem?_append_right (by simp; omega)]
  rw [show x / 2 ^ k + 1 + i - (List.replicate (x / 2 ^ k) 1).length = i + 1 from by simp; omega]
  rw [List.getElem?_cons_succ, ← List.getD_eq_getElem?_getD, lowB_at x k i h]
/-- So many ones from a place on, then none: the number's first part. -/
theorem ones_end {k many : Nat} {o : List UInt8} {l : List Nat} (h : Writes k many o l) (j : Nat) (hj : j < many) (n : Nat) (h1 : ∀ q, q < n → bitAt o (placeOf k l j + q) = 1) (h2 : bitAt o (placeOf k l j + n) ≠ 1) : n = l.getD j 0 / 2 ^ k := by
  have hl := numB_length k (l.getD j 0)
  rcases Nat.lt_trichotomy n (l.getD j 0 / 2 ^ k) with hh | hh | hh
  · have := (num_at h j hj n (by omega)).2
    rw [numB_one k _ n hh] at this
    exact absurd this h2
  · exact hh
  · have a := (num_at h j hj (l.getD j 0 / 2 ^ k) (by omega)).2
    rw [numB_nought, h1 _ hh] at a
    simp at a
theorem low_step {k many : Nat} {o : List UInt8} {l : List Nat} (h : Writes k many o l) (j : Nat) (hj : j < many) (i : Nat) (hi : i < k) (v : Int) (hv : v = ((l.getD j 0 / 2 ^ (k - i) : Nat) : Int)) :
    v * 2 + bitAt o (placeOf k l j + l.getD j 0 / 2 ^ k + 1 + i) = ((l.getD j 0 / 2 ^ (k - (i + 1)) : Nat) : Int) := by
  have hl := numB_length k (l.getD j 0)
  have a := (num_at h j hj (l.getD j 0 / 2 ^ k + 1 + i) (by omega)).2
  rw [numB_low k _ i hi] at a
  rw [show placeOf k l j + l.getD j 0 / 2 ^ k + 1 + i = placeOf k l j + (l.getD j 0 / 2 ^ k + 1 + i) from by omega, a, hv]
  have e : l.getD j 0 / 2 ^ (k - i) = l.getD j 0 / 2 ^ (k - (i + 1)) / 2 := by
    rw [show k - i = k - (i + 1) + 1 from by omega, Nat.pow_succ, Nat.div_div_eq_div_mul]
  rw [e, show k - 1 - i = k - (i + 1) from by omega]
  omega

end Go.Proofs.YtifpidhoeikdjaaGreatDoor

namespace Go.Proofs.YtifpidhoeikdjaaGreatDoor
open Go.RowKit

def getOk (o : List UInt8) (many k : Int) : Bool := decide (0 ≤ many ∧ many ≤ 40) && decide (0 ≤ k ∧ k ≤ 8) && decide (o.length ≤ 600)
def readAll (o : List UInt8) (many k : Int) : List Nat := readT k.toNat many.toNat (unpack o) (0, false, 0) []
open Classical in
/-- The list that is written just so, if there is one. -/
noncomputable def riceGet (o : List UInt8) (many k : Int) : Option (List Nat) :=
  if getOk o many k = true ∧ Writes k.toNat many.toNat o (readAll o many k) then some (readAll o many k) else none
theorem riceGet_bad {o : List UInt8} {many k : Int} (h : getOk o many k = false) : riceGet o many k = none := by
  rw [riceGet, if_neg (fun hh => by rw [h] at hh; cases hh.1)]
theorem riceGet_yes {o : List UInt8} {many k : Int} {l : List Nat} (h : getOk o many k = true) (hw : Writes k.toNat many.toNat o l) : riceGet o many k = some l := by
  have e : readAll o many k = l := writes_one hw
  rw [riceGet, e, if_pos ⟨h, hw⟩]
theorem riceGet_no {o : List UInt8} {many k : Int} (h : ∀ l, ¬ Writes k.toNat many.toNat o l) : riceGet o many k = none := by
  rw [riceGet, if_neg (fun hh => h _ hh.2)]
theorem riceGet_some {o : List UInt8} {many k : Int} {l : List Nat} (h : riceGet o many k = some l) : getOk o many k = true ∧ Writes k.toNat many.toNat o l := by
  unfold riceGet at h
  split at h
  · rename_i hh
    obtain rfl : readAll o many k = l := by simpa using h
    exact hh
  · cases h

end Go.Proofs.YtifpidhoeikdjaaGreatDoor

namespace Go.Proofs.YtifpidhoeikdjaaGreatDoor
open Go.RowKit

/-- Each the sum of all up to it. -/
def sumsF : Nat → List Nat → List Nat
  | _, [] => []
  | a, x :: r => (a + x) :: sumsF (a + x) r
def total (a : Nat) (l : List Nat) : Nat := l.foldl (· + ·) a
theorem total_cons (a x : Nat) (l : List Nat) : total a (x :: l) = total (a + x) l := rfl
theorem total_snoc (a x : Nat) (l : List Nat) : total a (l ++ [x]) = total a l + x := by simp [total]
theorem sumsF_length (l : List Nat) : ∀ a, (sumsF a l).length = l.length := by
  induction l with
  | nil => intro a; rfl
  | cons x r ih => intro a; simp [sumsF, ih]
theorem sumsF_snoc (l : List Nat) (x : Nat) : ∀ a, sumsF a (l ++ [x]) = sumsF a l ++ [total a l + x] := by
  induction l with
  | nil => intro a; rfl
  | cons y r ih => intro a; simp [sumsF, ih, total_cons]
theorem le_total (l : List Nat) : ∀ a, a ≤ total a l := by
  induction l with
  | nil => intro a; exact Nat.le_refl _
  | cons x r ih => intro a; rw [total_cons]; have := ih (a + x); omega
theorem sumsF_le (l : List Nat) : ∀ a, ∀ p ∈ sumsF a l, a ≤ p ∧ p ≤ total a l := by
  induction l with
  | nil => intro a p hp; cases hp
  | cons x r ih =>
    intro a p hp
    rw [total_cons]
    rcases List.mem_cons.1 hp with rfl | hp
    · exact ⟨by omega, le_total r _⟩
    · have := ih (a + x) p hp
      exact ⟨by omega, this.2⟩
theorem sumsF_last (l : List Nat) (h : l ≠ []) : ∀ a, total a l ∈ sumsF a l := by
  induction l with
  | nil => exact absurd rfl h
  | cons x r ih =>
    intro a
    cases r with
    | nil => simp [sumsF, total]
    | cons y t => exact List.mem_cons_of_mem _ (ih (by simp) (a + x))
theorem total_bound (l : List Nat) (h : ∀ x ∈ l, x ≤ 60000) : ∀ a, total a l ≤ a + 60000 * l.length := by
  induction l with
  | nil => intro a; exact Nat.le_refl _
  | cons x r ih =>
    intro a
    have h1 := ih (fun y hy => h y (by simp [hy])) (a + x)
    have h2 := h x (by simp)
    rw [total_cons, List.length_cons]
    omega

/-- Where the items fall, if all are below. -/
def placesOf (many : Nat) (gaps : List Nat) : Option (List Nat) := if total 0 gaps < many * 37 ∨ gaps = [] then some (sumsF 0 gaps) else none
noncomputable def filterGet (o : List UInt8) : Option (List Nat) :=
  if (varGet o).2 = 0 ∨ 600 < o.length then none
  else match riceGet (o.drop (varGet o).2) ((varGet o).1 : Int) 5 with
    | none => none
    | some gaps => placesOf (varGet o).1 gaps
theorem filterGet_bad {o : List UInt8} (h : (varGet o).2 = 0 ∨ 600 < o.length) : filterGet o = none := by rw [filterGet, if_pos h]
theorem filterGet_none {o : List UInt8} (h : riceGet (o.drop (varGet o).2) ((varGet o).1 : Int) 5 = none) : filterGet o = none := by
  unfold filterGet
  split
  · rfl
  · rw [h]
theorem filterGet_some {o : List UInt8} {gaps : List Nat} (h0 : ¬ ((varGet o).2 = 0 ∨ 600 < o.length)) (h : riceGet (o.drop (varGet o).2) ((varGet o).1 : Int) 5 = some gaps) : filterGet o = placesOf (varGet o).1 gaps := by
  rw [filterGet, if_neg h0, h]

theorem vg_size (f : Nat) : ∀ (l r : List UInt8), (vg f l r).2 ≤ l.length + r.length ∧ (vg f l r).2 ≤ l.length + f ∧ (vg f l r).1 ≤ 2147483647 := by
  induction f with
  | zero => intro l r; simp [vg]
  | succ f ih =>
    intro l r
    cases r with
    | nil => simp [vg]
    | cons b r =>
      rw [vg]
      split
      · have := ih (l ++ [b]) r
        simp at this ⊢
        omega
      · split
        · rename_i hb hv
          refine ⟨by simp, by simp, ?_⟩
          show vNum (l ++ [b]) ≤ 2147483647
          unfold varPut at hv
          split at hv
          · rename_i h
            omega
          · simp at hv
        · simp
theorem varGet_size (o : List UInt8) : (varGet o).2 ≤ o.length ∧ (varGet o).2 ≤ 5 ∧ (varGet o).1 ≤ 2147483647 := by
  have := vg_size 5 [] o
  simpa [varGet] using this

end Go.Proofs.YtifpidhoeikdjaaGreatDoor

set_option linter.unusedVariables false
namespace Go.Proofs.YtifpidhoeikdjaaGreatDoor
open Go.RowKit

def stepT (k : Nat) (s : (Nat × Bool × Nat) × List Nat) (b : Nat) : (Nat × Bool × Nat) × List Nat := ((takeM k s.1 b).1, s.2 ++ (takeM k s.1 b).2.toList)
def runT (k : Nat) (bs : List Bit) : (Nat × Bool × Nat) × List Nat := bs.foldl (fun s b => stepT k s b.1) ((0, false, 0), [])
theorem runT_snoc (k : Nat) (bs : List Bit) (b : Bit) : runT k (bs ++ [b]) = stepT k (runT k bs) b.1 := by simp [runT]
/-- What a number that is read in part can be. -/
def okT (k q : Nat) (st : Nat × Bool × Nat) : Prop := (st.2.1 = false ∧ st.1 ≤ q ∧ st.2.2 = 0) ∨ (st.2.1 = true ∧ 1 ≤ st.2.2 ∧ st.2.2 ≤ k ∧ st.1 < (q + 1) * 2 ^ (k - st.2.2))
theorem okT_step {k q b : Nat} {st : Nat × Bool × Nat} (h : okT k q st) (hb : b ≤ 1) : okT k (q + 1) (takeM k st b).1 := by
  obtain ⟨n, r, left⟩ := st
  rcases h with ⟨h1, h2, h3⟩ | ⟨h1, h2, h3, h4⟩
  · obtain rfl : r = false := h1
    have h2' : n ≤ q := h2
    have h3' : left = 0 := h3
    by_cases hb1 : b = 1
    · have e : (takeM k (n, false, left) b).1 = (n + 1, false, left) := by simp [takeM, hb1]
      rw [e]
      exact .inl ⟨rfl, by show n + 1 ≤ q + 1; omega, h3⟩
    · by_cases hk : 0 < k
      · have e : (takeM k (n, false, left) b).1 = (n, true, k) := by simp [takeM, hb1, hk]
        rw [e]
        exact .inr ⟨rfl, by show 1 ≤ k; omega, Nat.le_refl _, by show n < (q + 1 + 1) * 2 ^ (k - k); rw [Nat.sub_self]; omega⟩
      · have e : (takeM k (n, false, left) b).1 = (0, false, 0) := by simp [takeM, hb1, hk]
        rw [e]
        exact .inl ⟨rfl, Nat.zero_le _, rfl⟩
  · obtain rfl : r = true := h1
    have h3' : left ≤ k := h3
    have h4' : n < (q + 1) * 2 ^ (k - left) := h4
    by_cases hl : 1 < left
    · have e : (takeM k (n, true, left) b).1 = (n * 2 + b, true, left - 1) := by simp [takeM, hl]
      rw [e]
      refine .inr ⟨rfl, by show 1 ≤ left - 1; omega, by show left - 1 ≤ k; omega, ?_⟩
      show n * 2 + b < (q + 1 + 1) * 2 ^ (k - (left - 1))
      rw [show k - (left - 1) = k - left + 1 from by omega, Nat.pow_succ, ← Nat.mul_assoc, Nat.add_mul (q + 1) 1]
      omega
    · have e : (takeM k (n, true, left) b).1 = (0, false, 0) := by simp [takeM, hl]
      rw [e]
      exact .inl ⟨rfl, Nat.zero_le _, rfl⟩
theorem okT_small {k q : Nat} {st : Nat × Bool × Nat} (h : okT k q st) (hk : k ≤ 8) (hq : q ≤ 4800) : st.1 < 1000000000000 ∧ st.2.2 ≤ 8 ∧ (st.2.1 = true → 1 ≤ st.2.2) := by
  rcases h with ⟨h1, h2, h3⟩ | ⟨h1, h2, h3, h4⟩
  · exact ⟨by omega, by omega, fun e => by rw [h1] at e; cases e⟩
  · have hp : 2 ^ (k - st.2.2) ≤ 2 ^ 8 := Nat.pow_le_pow_right (by omega) (by omega)
    have hm : (q + 1) * 2 ^ (k - st.2.2) ≤ 4801 * 2 ^ 8 := Nat.mul_le_mul (by omega) hp
    exact ⟨by omega, by omega, fun _ => h2⟩
/-- Reading goes on behind these bits. -/
def OpenT (k many : Nat) (bs : List Bit) : Prop := (∀ rest, readT k many (bs.map (fun b => b.1) ++ rest) (0, false, 0) [] = readT k many rest (runT k bs).1 (runT k bs).2) ∧ (runT k bs).2.length ≤ many ∧ okT k bs.length (runT k bs).1
theorem openT_nil (k many : Nat) : OpenT k many [] := ⟨fun _ => rfl, Nat.zero_le _, .inl ⟨rfl, Nat.le_refl _, rfl⟩⟩
theorem openT_snoc {k many : Nat} {bs : List Bit} (h : OpenT k many bs) (hne : (runT k bs).2.length ≠ many) (b : Bit) : OpenT k many (bs ++ [b]) := by
  refine ⟨fun rest => ?_, ?_, ?_⟩
  · rw [List.map_append, List.append_assoc, h.1, List.map_cons, List.map_nil, List.cons_append, List.nil_append, readT, if_neg hne, runT_snoc]
    rfl
  · rw [runT_snoc]
    have h2 := h.2.1
    simp only [stepT, List.length_append]
    have : (takeM k (runT k bs).1 b.1).2.toList.length ≤ 1 := by cases (takeM k (runT k bs).1 b.1).2 <;> simp
    omega
  · rw [runT_snoc, List.length_append]
    exact okT_step h.2.2 b.2
theorem openT_full {k many : Nat} {bs : List Bit} (h : OpenT k many bs) (he : (runT k bs).2.length = many) (rest : List Nat) : readT k many (bs.map (fun b => b.1) ++ rest) (0, false, 0) [] = (runT k bs).2 := by
  rw [h.1]
  cases rest with
  | nil => rfl
  | cons b r => rw [readT, if_pos he]
theorem openT_end {k many : Nat} {bs : List Bit} (h : OpenT k many bs) : readT k many (bs.map (fun b => b.1)) (0, false, 0) [] = (runT k bs).2 := by
  have := h.1 []
  rw [List.append_nil] at this
  rw [this]
  rfl

theorem unpack_map (o : List UInt8) : unpack o = (List.range (8 * o.length)).map fun q => (o.getD (q / 8) 0).toNat / 2 ^ (7 - q % 8) % 2 := by
  induction o with
  | nil => rfl
  | cons c r ih =>
    have e : unpack (c :: r) = byteBits c ++ unpack r := rfl
    rw [e, ih, List.length_cons, show 8 * (r.length + 1) = 8 + 8 * r.length from by omega, List.range_add, List.map_append, List.map_map]
    congr 1
    · simp [byteBits, List.range, List.range.loop]
    · apply List.map_congr_left
      intro q _
      show _ = ((c :: r).getD ((8 + q) / 8) 0).toNat / 2 ^ (7 - (8 + q) % 8) % 2
      rw [show (8 + q) / 8 = q / 8 + 1 from by omega, show (8 + q) % 8 = q % 8 from by omega]
      simp
theorem unpack_bits (s : ByteArray) : unpack s.data.toList = (bitsTo s (8 * s.size)).map (fun b => b.1) := by
  rw [unpack_map, bitsTo, List.map_map]
  have : s.data.toList.length = s.size := by simp
  rw [this]
  rfl
theorem bitsTo_split (s : ByteArray) (q : Nat) (h : q ≤ 8 * s.size) : ∃ rest, unpack s.data.toList = (bitsTo s q).map (fun b => b.1) ++ rest := by
  refine ⟨((List.range (8 * s.size - q)).map (fun i => bitOf s (q + i))).map (fun b => b.1), ?_⟩
  have e : bitsTo s (8 * s.size) = bitsTo s q ++ (List.range (8 * s.size - q)).map (fun i => bitOf s (q + i)) := by
    rw [bitsTo, show 8 * s.size = q + (8 * s.size - q) from by omega, List.range_add, List.map_append, List.map_map, show q + (8 * s.size - q) - q = 8 * s.size - q from by omega]
    rfl
  rw [unpack_bits, e, List.map_append]

end Go.Proofs.YtifpidhoeikdjaaGreatDoor

set_option linter.unusedVariables false
namespace Go.Proofs.YtifpidhoeikdjaaGreatDoor
open Go.Shelf Go.RowKit

/-- What has been read: so many numbers, and for every list that is written just so: its first ones, and its next place. -/
def ReadTo (k many : Nat) (o : List UInt8) (out : List Nat) (p : Nat) : Prop :=
  (∀ x ∈ out, x ≤ 60000) ∧ ∀ l, Writes k many o l → l.take out.length = out ∧ placeOf k l out.length = p
def OutRow (B : Nat) (v : Value) (out : List Nat) (w : World) : Prop := (∃ g cap, v = .slice (some ⟨g, 0, none⟩) out.length cap) ∧ w.ownsRow B 3 1 v out.length (intCells out)

def sliceLen : Value → Nat
  | .slice _ n _ => n
  | _ => 0
theorem newRow (w : World) : OutRow w.heap.size (.slice (some ⟨w.heap.size, 0, none⟩) 0 0) [] (w.alloc (.cells #[] 3)) :=
  ⟨⟨_, _, rfl⟩, rfl, .inr ⟨_, _, #[], rfl, Nat.le_refl _, heap_alloc_new w _, Nat.le_refl _, by unfold maxLen; omega, rfl, rfl⟩⟩
theorem readTo_start (k many : Nat) (o : List UInt8) : ReadTo k many o [] 0 :=
  ⟨by simp, fun l _ => ⟨by simp, by simp [placeOf_zero]⟩⟩
theorem bitAt_nonneg {o : List UInt8} {p : Nat} (h : p < 8 * o.length) : 0 ≤ bitAt o p := by rw [bitAt_in h]; omega
theorem readTo_none {k many : Nat} {o : List UInt8} {out : List Nat} {p m : Nat} {v : Int} (h : ReadTo k many o out p) (hj : out.length < many) (hv : ∀ l, Writes k many o l → v = ((l.getD out.length 0 : Nat) : Int) ∧ m = placeOf k l (out.length + 1)) (hbad : 8 * o.length < m ∨ 60000 < v) : ∀ l, ¬ Writes k many o l := by
  intro l hl
  obtain ⟨h1, h2⟩ := hv l hl
  have hjl : out.length < l.length := by rw [hl.1]; exact hj
  rcases hbad with hb | hb
  · have hn := numB_length k (l.getD out.length 0)
    have hpos : 0 < (numB k (l.getD out.length 0)).length := by rw [hn]; exact Nat.add_pos_left (Nat.succ_pos _) _
    have h3 := (num_at hl out.length hj ((numB k (l.getD out.length 0)).length - 1) (Nat.sub_lt hpos Nat.one_pos)).1
    rw [placeOf_succ k l out.length hjl] at h2
    generalize (numB k (l.getD out.length 0)).length = N at *
    omega
  · have h3 : l.getD out.length 0 ≤ 60000 := by
      refine hl.2.1 _ ?_
      simp [List.getElem?_eq_getElem hjl]
    omega
theorem readTo_next {k many : Nat} {o : List UInt8} {out : List Nat} {p m vn : Nat} (h : ReadTo k many o out p) (hj : out.length < many) (hv : ∀ l, Writes k many o l → (vn : Int) = ((l.getD out.length 0 : Nat) : Int) ∧ m = placeOf k l (out.length + 1)) (hs : vn ≤ 60000) : ReadTo k many o (out ++ [vn]) m := by
  refine ⟨?_, ?_⟩
  · intro x hx
    rcases List.mem_append.1 hx with hx | hx
    · exact h.1 x hx
    · simp at hx; omega
  · intro l hl
    obtain ⟨h1, h2⟩ := hv l hl
    have hjl : out.length < l.length := by rw [hl.1]; exact hj
    refine ⟨?_, by rw [List.length_append]; exact h2.symm⟩
    rw [List.length_append, List.length_singleton, List.take_add_one, (h.2 l hl).1, List.getElem?_eq_getElem hjl]
    have e : l.getD out.length 0 = l[out.length] := by rw [List.getD_eq_getElem?_getD, List.getElem?_eq_getElem hjl]; rfl
    rw [e] at h1
    have : vn = l[out.length] := by omega
    simp [this]

end Go.Proofs.YtifpidhoeikdjaaGreatDoor

set_option linter.unusedVariables false
namespace Go.Proofs.YtifpidhoeikdjaaGreatDoor
open Go.Shelf Go.RowKit

/-- What comes back: nothing, or a row of the call's own that holds the numbers. -/
def GotRow (B : Nat) (v : Value) (w : World) : Option (List Nat) → Prop
  | none => v = .slice none 0 0
  | some l => OutRow B v l w
theorem toNat_map (l : List Nat) : (l.map fun n : Nat => (n : Int)).map Int.toNat = l := by
  rw [List.map_map]
  conv => rhs; rw [← List.map_id l]
  apply List.map_congr_left
  intro x _
  simp
theorem outRow_at {B : Nat} {g n cap : Nat} {l : List Nat} {w : World} (h : OutRow B (.slice (some ⟨g, 0, none⟩) n cap) l w) : At w g (l.map fun n : Nat => (n : Int)) := by
  obtain ⟨⟨g', cap', hv⟩, hrow⟩ := h
  simp only [Value.slice.injEq, Option.some.injEq, Addr.mk.injEq, and_true] at hv
  obtain ⟨rfl, rfl, rfl⟩ := hv
  obtain ⟨cur, hc, hlt⟩ := ownsRow_type hrow g rfl
  refine ⟨hlt, fun i hi => ?_⟩
  have hil : i < l.length := by simpa using hi
  rw [intCell_at hrow i hil]
  simp [List.getElem?_eq_getElem hil]

end Go.Proofs.YtifpidhoeikdjaaGreatDoor

set_option linter.unusedVariables false
namespace Go.Proofs.YtifpidhoeikdjaaGreatDoor
open Go.RowKit

theorem ownsRow_mono {B C : Nat} {e : TypeId} {v : Value} {n : Nat} {xs : List Value} {w : World} (h : w.ownsRow C e 1 v n xs) (hB : B ≤ C) : w.ownsRow B e 1 v n xs := by
  refine ⟨h.1, ?_⟩
  rcases h.2 with h2 | ⟨g, cap, cur, hv, h2, h3⟩
  · exact .inl h2
  · exact .inr ⟨g, cap, cur, hv, by omega, h3⟩

theorem OutRow.keep {B g n cap C : Nat} {l : List Nat} {w w' : World} (h : OutRow B (.slice (some ⟨g, 0, none⟩) n cap) l w) (hb : Below C w w') (hg : g < C) : OutRow B (.slice (some ⟨g, 0, none⟩) n cap) l w' :=
  ⟨h.1, ownsRow_keep h.2 (fun g' hg' => by obtain rfl : g = g' := by simpa [Value.ownBlock] using hg'
                                           exact hb.block g hg)⟩
theorem OutRow.lt {B g n cap : Nat} {l : List Nat} {w : World} (h : OutRow B (.slice (some ⟨g, 0, none⟩) n cap) l w) : B ≤ g ∧ g < w.heap.size := by
  obtain ⟨⟨g', cap', hv⟩, hrow⟩ := h
  simp only [Value.slice.injEq, Option.some.injEq, Addr.mk.injEq, and_true] at hv
  obtain ⟨rfl, rfl, rfl⟩ := hv
  obtain ⟨cur, hc, hlt⟩ := ownsRow_type hrow g rfl
  refine ⟨?_, hlt⟩
  rcases hrow.2 with ⟨h2, _⟩ | ⟨g', cap', cur, hv, h2, _⟩
  · cases h2
  · simp only [Value.slice.injEq, Option.some.injEq, Addr.mk.injEq, and_true] at hv
    rw [hv.1]
    exact h2

end Go.Proofs.YtifpidhoeikdjaaGreatDoor

