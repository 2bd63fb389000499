/-
  Texts that the last part needs, joined.
-/
import Derived.Test.YtialhnocknogpaaGreatDoorPart1
import Derived.Test.YtialhnocknogpaaGreatDoorPart2
import Derived.Test.YtialhnocknogpaaGreatDoorPart3
import Derived.Test.YtialhnocknogpaaGreatDoorPart4
import Derived.Shelf.Strings.MapGrows
import Derived.Deep.RegionHeld3
import Derived.WalkKit
import Derived.Below
import Derived.ProofKit
import Derived.OpenShut
import Derived.ShutString
import Derived.ChangeOld
import Derived.ChangeArms
import Derived.WideShapes
import Derived.BigRegion
import Derived.Deep.RegionWith
import Derived.Deep.OwnRows
import Derived.Laws.Rows
import Derived.SliceStrings
import Derived.Laws.StructEq
import Derived.Test.YtialhnocknogpaaGreatDoorProg
import Derived.WalkSpells
import Derived.BigQuiet
import Derived.Deep.QuietTactic
import Derived.Lib.Builder
import Derived.Laws.BitsLemmas
set_option linter.unusedVariables false
namespace Go.Proofs.YtialhnocknogpaaGreatDoor
open Go.RowKit

theorem padLen_mod (n : Nat) : padLen n % 64 = 0 := by unfold padLen; omega
theorem RowN.nums {T : TypeId} {w : World} {g m : Nat} {l : List Nat} (h : RowN T w g l) (hm : m + 64 ≤ l.length) : Nums w g m ((l.drop m).take 64) := by
  intro i hi
  have hi64 : i < 64 := by simp at hi; omega
  rw [h.cell (m + i) (by omega)]
  have e : ((l.drop m).take 64).getD i 0 = l.getD (m + i) 0 := by
    simp [hi64]
  rw [e]

set_option maxHeartbeats 1000000 in
set_option maxRecDepth 100000 in
theorem specSha (s : ByteArray) (w : World) (hs : s.size ≤ 1073741824) :
    Calls Tryz.prog 66 #[.string s] w fun e w' => ∃ g, e = .returned (.slice (some ⟨g, 0, none⟩) 8 8) ∧ RowN 3 w' g (sha s.data.toList).toL ∧ Below w.heap.size w w' := by
  go_enter Tryz.func66, Tryz.ntmps66
  go_wp2_with fail
  refine (specConsts _).mono ?_
  rintro e w1 ⟨rfl, hh1, hk1, b1⟩
  have hlt1 := hk1.lt
  go_wp2_with fail
  refine (specPad s _ hs).mono ?_
  rintro e w2 ⟨rfl, hp2, b2⟩
  have b12 := b1.trans (b2.mono b1.size)
  have hh2 := hh1.below b2 (by omega)
  have hk2 := hk1.below b2 hlt1
  obtain ⟨gb, hgb⟩ : ∃ gb, gb = w1.heap.size := ⟨_, rfl⟩
  rw [← hgb] at hp2 ⊢
  obtain ⟨gk, hgk⟩ : ∃ gk, gk = w.heap.size + 1 := ⟨_, rfl⟩
  rw [← hgk] at hk2 ⊢
  have hlen := padN_length s.data.toList
  rw [show s.data.toList.length = s.size from by simp] at hlen
  have hpl := padN_lt s.data.toList
  have HSH : Hid (sha s.data.toList = mixTo (padN s.data.toList) (padLen s.size / 64)) := by
    show _ = _
    rw [sha, show s.data.toList.length = s.size from by simp]
  generalize padN s.data.toList = P at hp2 hlen hpl HSH
  obtain ⟨L, hL⟩ : ∃ L, L = padLen s.size := ⟨_, rfl⟩
  have hL2 : L ≤ s.size + 72 := by rw [hL]; unfold padLen; omega
  have HLm : Hid (L % 64 = 0) := by show _ = _; rw [hL]; exact padLen_mod _
  rw [← hL] at hlen HSH ⊢
  have HL : Hid (P.length = L) := hlen
  clear hlen hL hgb hgk hh1 hk1 b1 b2 hlt1
  go_wp2
  go_loopw [3, 6] (fun h i wr => ∃ (j m gh : Nat), m ≤ L ∧ i = .int .i64 m ∧ Hid (m = 64 * j) ∧ h = .slice (some ⟨gh, 0, none⟩) 8 8 ∧ RowN 3 wr gh (mixTo P j).toL ∧ RowN 3 wr gk shaK ∧ RowN 3 wr gb P ∧ Below w.heap.size w wr) (fun _ i _ => L - (intOf i).toNat)
  case atStart => exact ⟨0, 0, w.heap.size, by omega, rfl, rfl, rfl, hh2, hk2, hp2, b12⟩
  case round =>
    clear hh2 hk2 hp2 b12
    obtain ⟨j, m, gh, hm, rfl, HM, rfl, hh, hk, hp, hbw⟩ := hrel
    have hm64 : m < L → m + 64 ≤ L := by have h1 := HLm.out; have h2 := HM.out; omega
    by_cases hlt : m < L
    · have hm2 := hm64 hlt
      have hnum := hp.nums (m := m) (by rw [HL.out]; exact hm2)
      have hgb := hp.lt
      have hgh := hh.lt
      have hgk := hk.lt
      have hsl : ((P.drop m).take 64).length = 64 := by simp [HL.out]; omega
      have hsb : ∀ x ∈ (P.drop m).take 64, x < 256 := fun x hx => hpl x (List.mem_of_mem_drop (List.mem_of_mem_take hx))
      have HNX : Hid (mixTo P (j + 1) = mix shaK (mixTo P j) ((P.drop m).take 64)) := by show _ = _; rw [mixTo, ← HM.out]
      have HB : Hid (Below w.heap.size w wr) := hbw
      have hwsz := hbw.size
      generalize (P.drop m).take 64 = bs at hnum hsl hsb HNX
      clear hm64 hbw
      go_wp2_with fail
      refine (specWords bs gb m (L - m) _ hnum hsl hsb hgb).mono ?_
      rintro e w3 ⟨rfl, hw3, b3⟩
      have hh3 := hh.below b3 hgh
      have hk3 := hk.below b3 hgk
      have hp3 := hp.below b3 hgb
      have hwl := schedTo_length bs 48
      have hwo := schedTo_lt bs hsb 48
      have hsz3 := b3.size
      have hlt3 := hw3.lt
      have HW : Hid (mix shaK (mixTo P j) bs = (mixTo P j).plus (rounds shaK (schedTo bs 48) (mixTo P j) 64)) := rfl
      generalize schedTo bs 48 = ws at hw3 hwl hwo HW
      clear hh hk hp hnum hsl hsb
      go_wp2_with fail
      refine (specMix (mixTo P j) (mixTo_ok P j) shaK ws gh wr.heap.size gk _ hh3 hw3 hk3 hwl rfl hwo shaK_ok).mono ?_
      rintro e w4 ⟨rfl, hr4, b4⟩
      have hk4 := hk3.below b4 hk3.lt
      have hp4 := hp3.below b4 hp3.lt
      rw [← HW.out, ← HNX.out] at hr4
      clear hh3 hk3 hp3 hw3 hwl hwo
      go_wp2
      go_roundw
      case rel =>
        refine ⟨j + 1, m + 64, w3.heap.size + 1, by omega, by go_num, ?_, rfl, hr4, hk4, hp4, (HB.out.trans (b3.mono (by omega))).trans (b4.mono (by omega))⟩
        show m + 64 = 64 * (j + 1)
        have := HM.out
        omega
      case measure => simp [intOf]; omega
    · have HJ : Hid (j = L / 64) := by show j = L / 64; have h1 := HLm.out; have h2 := HM.out; omega
      clear hm64
      go_wp2
      go_ret
      rw [HSH.out, ← HJ.out]
      exact ⟨gh, rfl, hh, hbw⟩

set_option maxHeartbeats 1000000 in
set_option maxRecDepth 100000 in
theorem specSum (s : ByteArray) (w : World) (hs : s.size ≤ 1073741824) :
    Calls Tryz.prog 40 #[.string s] w fun e w' => e = .returned (.string ⟨(sumB s.data.toList).toArray⟩) ∧ Below w.heap.size w w' := by
  go_enter Tryz.func40, Tryz.ntmps40
  go_wp2_with fail
  refine (specSha s _ hs).mono ?_
  rintro e w1 ⟨g, rfl, hr, b1⟩
  have hok : (sha s.data.toList).ok := mixTo_ok _ _
  have HS : Hid (sumB s.data.toList = hexOf (sha s.data.toList).a ++ hexOf (sha s.data.toList).b) := rfl
  generalize sha s.data.toList = t at hr hok HS
  have c0 : w1.cell? ⟨g, 0, none⟩ = some (.int .i64 (t.a : Int)) := hr.cell 0 (by simp [St.toL])
  have c1 : w1.cell? ⟨g, 1, none⟩ = some (.int .i64 (t.b : Int)) := hr.cell 1 (by simp [St.toL])
  have hg := hr.lt
  have la := hok.1
  have lb := hok.2.1
  have hl8 : ∀ x, (hexOf x).length = 8 := fun x => by simp [hexOf]
  go_wp2_with fail
  go_region_with (first | (go_at_call_of 67 (Value.int .i64 (t.a : Int)); refine (specHex _ _ la).mono ?_; rintro e w2 ⟨rfl, b2⟩; have d1 : w2.cell? ⟨g, 1, none⟩ = some (.int .i64 (t.b : Int)) := (b2.cell (p := ⟨g, 1, none⟩) hg).trans c1) | (go_at_call_of 67 (Value.int .i64 (t.b : Int)); refine (specHex _ _ lb).mono ?_; rintro e w3 ⟨rfl, b3⟩))
  all_goals
    go_wp2
    go_ret
    rw [HS.out]
    have hcat : (⟨(hexOf t.a).toArray⟩ : ByteArray) ++ ⟨(hexOf t.b).toArray⟩ = ⟨(hexOf t.a ++ hexOf t.b).toArray⟩ := by
      apply ByteArray.ext; simp
    rw [← hcat]
    have b12 := b1.trans (((Below.drew (Below.refl _ w1)).trans b2).mono b1.size)
    exact ⟨rfl, b12.trans (b3.mono b12.size)⟩

end Go.Proofs.YtialhnocknogpaaGreatDoor

set_option linter.unusedVariables false
namespace Go.Proofs.YtialhnocknogpaaGreatDoor
open Go.RowKit

theorem sha0_cells : uCells sha0.toL = #[Value.int .u32 1779033703, Value.int .u32 3144134277, Value.int .u32 1013904242, Value.int .u32 2773480762, Value.int .u32 1359893119, Value.int .u32 2600822924, Value.int .u32 528734635, Value.int .u32 1541459225] := rfl
theorem shaK_len : shaK.length = 64 := rfl
theorem loadU8 (l : List Nat) (hl : l.length = 8) (g : Nat) (w : World) (h : RowU 97 w g l) : (Instr.loadAt 97 (.pointer (some ⟨g, 0, none⟩))).run Tryz.prog w = .ok (.agg (uCells l)) w := by
  have := run_loadAt_mid (P := Tryz.prog) w g 0 97 (uCells l).toList _ h.range Tryz.underlying97 rfl (by rw [size8, Array.length_toList, uCells_size, hl])
  rw [Array.toArray_toList] at this
  exact this
theorem storeU8 (l m : List Nat) (hl : l.length = 8) (hm : m.length = 8) (g : Nat) (w : World) (h : RowU 97 w g m) : (Instr.storeAt 97 (.pointer (some ⟨g, 0, none⟩)) (.agg (uCells l))).run Tryz.prog w = .ok () (w.setCells g 0 (uCells l).toList) :=
  run_storeAt_mid (P := Tryz.prog) w g 0 97 (uCells l) (h.there _ (by rw [uCells_size, hl, hm])) (by rw [size8, uCells_size, hl]) (uCells_one _)

theorem scheduleI2 (bs : List Nat) (g o cap : Nat) (w : World) (hn : ∀ i, i < bs.length → w.cell? ⟨g, o + i, none⟩ = some (.int .u8 ((bs.getD i 0 : Nat) : Int))) (hl : bs.length = 64) (hbb : ∀ x ∈ bs, x < 256) (hg : g < w.heap.size) :
    Calls Tryz.prog 54 #[.slice (some ⟨g, o, none⟩) 64 cap] w fun e w' => ∃ ws, e = .returned (.agg (uCells ws)) ∧ Hid (ws = schedTo bs 48) ∧ Hid (Below w.heap.size w w') :=
  (scheduleI bs g o cap w hn hl hbb hg).mono fun e w' h => ⟨_, h.1, rfl, h.2⟩
theorem nextI2 (bs : List Nat) (hbb : ∀ x ∈ bs, x < 256) (ws : List Nat) (hws : ws = schedTo bs 48) (s : St) (hs : s.ok) (w : World) (hms : RowG w shaK) :
    Calls Tryz.prog 53 #[.agg (uCells s.toL), .agg (uCells ws)] w fun e w' => ∃ l, e = .returned (.agg (uCells l)) ∧ Hid (l = (mix shaK s bs).toL) ∧ Hid (Below w.heap.size w w') := by
  have h1 := schedTo_length bs 48
  have h2 := schedTo_lt bs hbb 48
  have h3 : mix shaK s bs = s.plus (rounds shaK (schedTo bs 48) s 64) := rfl
  rw [← hws] at h1 h2 h3
  exact (nextI shaK ws s hs w hms shaK_len shaK_ok h1 h2).mono fun e w' h => ⟨_, h.1, by rw [h3]; rfl, h.2⟩

theorem toL_len (s : St) : s.toL.length = 8 := rfl
theorem cells8 {T : TypeId} {w : World} {G a b c d e f g h : Nat} (H : RowU T w G (St.toL ⟨a, b, c, d, e, f, g, h⟩)) : w.cell? ⟨G, 0, none⟩ = some (.int .u32 (a : Int)) ∧ w.cell? ⟨G, 1, none⟩ = some (.int .u32 (b : Int)) ∧ w.cell? ⟨G, 2, none⟩ = some (.int .u32 (c : Int)) ∧ w.cell? ⟨G, 3, none⟩ = some (.int .u32 (d : Int)) ∧ w.cell? ⟨G, 4, none⟩ = some (.int .u32 (e : Int)) ∧ w.cell? ⟨G, 5, none⟩ = some (.int .u32 (f : Int)) ∧ w.cell? ⟨G, 6, none⟩ = some (.int .u32 (g : Int)) ∧ w.cell? ⟨G, 7, none⟩ = some (.int .u32 (h : Int)) :=
  ⟨H.cell 0 (by show _ < 8; decide), H.cell 1 (by show _ < 8; decide), H.cell 2 (by show _ < 8; decide), H.cell 3 (by show _ < 8; decide), H.cell 4 (by show _ < 8; decide), H.cell 5 (by show _ < 8; decide), H.cell 6 (by show _ < 8; decide), H.cell 7 (by show _ < 8; decide)⟩
theorem nextI3 (bs : List Nat) (hbb : ∀ x ∈ bs, x < 256) (ws : List Nat) (hws : ws = schedTo bs 48) (a b c d e f g h : Nat) (hs : (⟨a, b, c, d, e, f, g, h⟩ : St).ok) (w : World) (hms : RowG w shaK) :
    Calls Tryz.prog 53 #[.agg #[.int .u32 (a : Int), .int .u32 (b : Int), .int .u32 (c : Int), .int .u32 (d : Int), .int .u32 (e : Int), .int .u32 (f : Int), .int .u32 (g : Int), .int .u32 (h : Int)], .agg (uCells ws)] w fun e' w' => ∃ l, e' = .returned (.agg (uCells l)) ∧ Hid (l = (mix shaK ⟨a, b, c, d, e, f, g, h⟩ bs).toL) ∧ Hid (Below w.heap.size w w') :=
  nextI2 bs hbb ws hws ⟨a, b, c, d, e, f, g, h⟩ hs w hms

set_option maxHeartbeats 1000000 in
set_option maxRecDepth 100000 in
theorem implSum (s : ByteArray) (w : World) (hs : s.size ≤ 1073741824) (hK : RowG w shaK) :
    Calls Tryz.prog 35 #[.string s] w fun e w' => e = .returned (.string ⟨(sumB s.data.toList).toArray⟩) ∧ Below w.heap.size w w' := by
  obtain ⟨W, hW⟩ : ∃ W, W = w.alloc (.cells (uCells sha0.toL) 97) := ⟨_, rfl⟩
  have HZ : Hid (RowU 97 W w.heap.size sha0.toL ∧ W.heap.size = w.heap.size + 1 ∧ Below w.heap.size w W) := by
    refine ⟨?_, ?_, ?_⟩
    · rw [hW]; exact heap_alloc_new w _
    · rw [hW]; simp
    · rw [hW]; exact (Below.refl _ w).alloc (Nat.le_refl _) _
  have HW : Hid (W = w.alloc (.cells (uCells sha0.toL) 97)) := hW
  have HK : Hid (RowG w shaK) := hK
  clear hW hK
  go_enter Tryz.func35, Tryz.ntmps35
  go_wp2_with fail
  rw [← sha0_cells, ← HW.out]
  refine (paddedI s _ hs).mono ?_
  rintro e w1 ⟨g, cap, rfl, hrow, b1⟩
  have hg := hrow.lt
  have hcells : ∀ i, i < padLen s.size → w1.cell? ⟨g, i, none⟩ = some (.int .u8 (((padN s.data.toList).getD i 0 : Nat) : Int)) := by
    intro i hi
    have hlB : i < (padB s.data.toList).length := by rw [padB_length]; simpa using hi
    rw [hrow.cells i hlB, padN_padB]
    simp [List.getElem?_eq_getElem hlB]
  have hcap : padLen s.size ≤ cap ∧ cap ≤ maxLen := by
    obtain ⟨g', cap', cur, fz, hv, _, _, _, h1, h2, _⟩ := hrow
    simp only [Value.slice.injEq, Option.some.injEq, Addr.mk.injEq, and_true] at hv
    obtain ⟨_, _, rfl⟩ := hv
    rw [padB_length] at h1
    exact ⟨by simpa using h1, h2⟩
  have hlen := padN_length s.data.toList
  rw [show s.data.toList.length = s.size from by simp] at hlen
  have hpl := padN_lt s.data.toList
  have HSH : Hid (sha s.data.toList = mixTo (padN s.data.toList) (padLen s.size / 64)) := by
    show _ = _
    rw [sha, show s.data.toList.length = s.size from by simp]
  generalize padN s.data.toList = P at hcells hlen hpl HSH
  obtain ⟨L, hL⟩ : ∃ L, L = padLen s.size := ⟨_, rfl⟩
  have hL2 : L ≤ s.size + 72 := by rw [hL]; unfold padLen; omega
  have HLm : Hid (L % 64 = 0) := by show _ = _; rw [hL]; exact padLen_mod _
  rw [← hL] at hcells hcap hlen HSH ⊢
  have HL : Hid (P.length = L) := hlen
  have HC : Hid (∀ i, i < L → w1.cell? ⟨g, i, none⟩ = some (.int .u8 ((P.getD i 0 : Nat) : Int))) := hcells
  have HG : Hid (w.heap.size + 1 ≤ g ∧ g < w1.heap.size) := by
    refine ⟨?_, hg.2⟩
    have := hg.1
    rw [HZ.out.2.1] at this
    exact this
  have hw0 : 0 < w.heap.size := HK.out.lt
  have HB : Hid (RowU 97 w1 w.heap.size sha0.toL ∧ RowG w1 shaK ∧ Below w.heap.size w w1) := by
    have hb := HZ.out.2.2.trans (b1.mono (by rw [HZ.out.2.1]; omega))
    exact ⟨HZ.out.1.below b1 (by rw [HZ.out.2.1]; omega), HK.out.below hb hw0, hb⟩
  have hc2 := hcap.1
  have hc3 : cap ≤ 9223372036854775807 := by have := hcap.2; simp only [maxLen] at this; omega
  clear hlen hL hg hcells hrow b1 HZ HW hcap
  go_wp2
  go_loopw [5] (fun i wr => ∃ (j m : Nat), m ≤ L ∧ i = .int .i64 (m : Int) ∧ Hid (m = 64 * j) ∧ Hid (RowU 97 wr w.heap.size (mixTo P j).toL) ∧ Hid (RowG wr shaK) ∧ Hid (∀ i, i < L → wr.cell? ⟨g, i, none⟩ = some (.int .u8 ((P.getD i 0 : Nat) : Int))) ∧ Hid (g < wr.heap.size) ∧ Hid (Below w.heap.size w wr)) (fun i _ => L - (intOf i).toNat)
  case atStart => exact ⟨0, 0, by omega, rfl, rfl, HB.out.1, HB.out.2.1, HC, HG.out.2, HB.out.2.2⟩
  case round =>
    obtain ⟨j, m, hm, rfl, HM, HR, HK1, HC1, HG1, HB1⟩ := hrel
    have hm64 : m < L → m + 64 ≤ L := by have h1 := HLm.out; have h2 := HM.out; omega
    by_cases hlt : m < L
    · have hm2 := hm64 hlt
      have hsl : ((P.drop m).take 64).length = 64 := by simp [HL.out]; omega
      have hsb : ∀ x ∈ (P.drop m).take 64, x < 256 := fun x hx => hpl x (List.mem_of_mem_drop (List.mem_of_mem_take hx))
      have HNX : Hid (mixTo P (j + 1) = mix shaK (mixTo P j) ((P.drop m).take 64)) := by show _ = _; rw [mixTo, ← HM.out]
      have HN : Hid (∀ i, i < ((P.drop m).take 64).length → wr.cell? ⟨g, m + i, none⟩ = some (.int .u8 ((((P.drop m).take 64).getD i 0 : Nat) : Int))) := by
        intro i hi
        rw [hsl] at hi
        rw [HC1.out (m + i) (by omega)]
        simp [hi]
      generalize (P.drop m).take 64 = bs at HN hsl hsb HNX
      have Hsb : Hid (∀ x ∈ bs, x < 256) := hsb
      obtain ⟨m2, hm2e⟩ : ∃ m2 : Nat, m2 = m + 64 := ⟨_, rfl⟩
      have lw : IntKind.i64.wrap ((m : Int) + 64) = (m2 : Int) := by rw [IntKind.wrap_i64, hm2e]; omega
      have lm0 : (0 : Int) ≤ (m : Int) := by omega
      have lm1 : (m : Int) ≤ (m2 : Int) := by omega
      have lm2 : (m2 : Int) ≤ (cap : Int) := by omega
      have lm3 : (0 : Int) ≤ (m2 : Int) := by omega
      have ld1 : m2 - m = 64 := by omega
      have lne : ¬ cap = m := by omega
      have ld2 : ((m2 : Int) - (m : Int)).toNat = 64 := by omega
      have ld3 : (m2 : Int) - (m : Int) = 64 := by omega
      have HM2 : Hid (m2 = m + 64) := hm2e
      clear hm2e
      clear hm64 hsb
      have hmo := mixTo_ok P j
      generalize mixTo P j = st at HR HNX hmo
      have hwlt : w.heap.size < wr.heap.size := HR.out.lt
      have hw0lt : 0 < wr.heap.size := by omega
      obtain ⟨a, b, c, d, e, f, gg, h⟩ := st
      have Hok : Hid ((⟨a, b, c, d, e, f, gg, h⟩ : St).ok) := hmo
      obtain ⟨c0, c1, c2, c3, c4, c5, c6, c7⟩ := cells8 HR.out
      clear hmo
      go_wp2_with fail
      go_region_with (first | (go_at_call 54; refine (scheduleI2 bs g m _ _ ?_ hsl Hsb.out ?_).mono ?_; exact HN.out; exact HG1.out; rintro e w2 ⟨ws, rfl, HWS, b2⟩; have hr2 : Hid (RowU 97 w2 w.heap.size (St.toL ⟨a, b, c, d, e, f, gg, h⟩)) := HR.out.drew.below b2.out hwlt; have hk2 : Hid (RowG w2 shaK) := HK1.out.drew.below b2.out hw0lt; obtain ⟨d0, d1, d2, d3, d4, d5, d6, d7⟩ := cells8 hr2.out) | (go_at_call 53; refine (nextI3 bs Hsb.out ws HWS.out a b c d e f gg h Hok.out _ ?_).mono ?_; exact hk2.out; rintro e w3 ⟨l3, rfl, HL3, b3⟩; have hr3 : Hid (RowU 97 w3 w.heap.size (St.toL ⟨a, b, c, d, e, f, gg, h⟩)) := hr2.out.below b3.out hr2.out.lt; have hk3 : Hid (RowG w3 shaK) := hk2.out.below b3.out hk2.out.lt; have hsz : (uCells l3).size = 8 := (by rw [uCells_size, HL3.out]; exact toL_len _); have hst := run_storeCellsU (P := Tryz.prog) hr3.out l3 (by rw [HL3.out, toL_len, toL_len])))
      all_goals
        go_wp2
        go_roundw
        case rel =>
          have hbb : Below w.heap.size w w3 := (HB1.out.drew.trans (b2.out.mono (Nat.le_of_lt hwlt))).trans (b3.out.mono (Nat.le_of_lt hr2.out.lt))
          have hg3 : g < w3.heap.size := Nat.lt_of_lt_of_le HG1.out (Nat.le_trans b2.out.size b3.out.size)
          have hg2 : g < w2.heap.size := Nat.lt_of_lt_of_le HG1.out b2.out.size
          refine ⟨j + 1, m + 64, by omega, by go_num, ?_, ?_, ?_, ?_, ?_, ?_⟩
          · show m + 64 = 64 * (j + 1)
            have := HM.out
            omega
          · show RowU _ _ _ _
            rw [HNX.out, ← HL3.out]
            exact hr3.out.over (by rw [HL3.out, toL_len, toL_len])
          · exact hk3.out.keep (heap_setCells_other _ _ _ _ _ (by omega))
          · intro i hi
            rw [World.cell?_setCells_out _ _ _ _ _ (fun h1 _ => absurd h1 (by have := HG.out.1; show ¬ g = w.heap.size; omega))]
            rw [b3.out.cell (p := ⟨g, i, none⟩) hg2, b2.out.cell (p := ⟨g, i, none⟩) HG1.out]
            exact HC1.out i hi
          · exact Nat.lt_of_lt_of_le hg3 (Below.setCells (Below.refl w.heap.size w3) (Nat.le_refl _) _ _).size
          · exact Below.setCells hbb (Nat.le_refl _) _ _
        case measure => simp [intOf]; omega
    · have HJ : Hid (j = L / 64) := by show j = L / 64; have h1 := HLm.out; have h2 := HM.out; omega
      have HSB : Hid (sumB s.data.toList = hexOf (mixTo P j).a ++ hexOf (mixTo P j).b) := by
        show _ = _
        rw [sumB, HSH.out, ← HJ.out]
      have hok := mixTo_ok P j
      generalize mixTo P j = t at HR hok HSB
      have c0 : wr.cell? ⟨w.heap.size, 0, none⟩ = some (.int .u32 (t.a : Int)) := HR.out.cell 0 (by simp [St.toL])
      have c1 : wr.cell? ⟨w.heap.size, 1, none⟩ = some (.int .u32 (t.b : Int)) := HR.out.cell 1 (by simp [St.toL])
      have hg := HR.out.lt
      have la := hok.1
      have lb := hok.2.1
      have hl8 : ∀ x, (hexOf x).length = 8 := fun x => by simp [hexOf]
      clear hm64 hok
      go_wp2_with fail
      go_region_with (first | (go_at_call_of 55 (Value.int .u32 (t.a : Int)); refine (figuresI _ _ la).mono ?_; rintro e w2 ⟨rfl, b2⟩; have d1 : w2.cell? ⟨w.heap.size, 1, none⟩ = some (.int .u32 (t.b : Int)) := (b2.cell (p := ⟨w.heap.size, 1, none⟩) hg).trans c1) | (go_at_call_of 55 (Value.int .u32 (t.b : Int)); refine (figuresI _ _ lb).mono ?_; rintro e w3 ⟨rfl, b3⟩))
      all_goals
        go_wp2
        go_ret
        rw [HSB.out]
        have hcat : (⟨(hexOf t.a).toArray⟩ : ByteArray) ++ ⟨(hexOf t.b).toArray⟩ = ⟨(hexOf t.a ++ hexOf t.b).toArray⟩ := by
          apply ByteArray.ext; simp
        rw [← hcat]
        have b12 := HB1.out.trans (((Below.drew (Below.refl _ wr)).trans b2).mono HB1.out.size)
        exact ⟨rfl, b12.trans (b3.mono b12.size)⟩

end Go.Proofs.YtialhnocknogpaaGreatDoor

set_option linter.unusedVariables false
namespace Go.Proofs.YtialhnocknogpaaGreatDoor
open Go.RowKit

theorem headT_len {h : HeadV} (hok : headOkB h = true) : (headT h).length ≤ 200 := by
  obtain ⟨h1, h2, h3, h4, h5⟩ := headOk_in hok
  have hps := sum_size h1
  have hrs := sum_size h2
  have htl : (Lib.decDigits h.time.toNat).length ≤ 19 := decLen (by omega)
  have hdl : (Lib.decDigits h.diff.toNat).length ≤ 19 := decLen (by omega)
  have hnl : (Lib.decDigits h.nonce.toNat).length ≤ 19 := decLen (by omega)
  have e1 : h.prev.data.toList.length = 16 := by simpa using hps
  have e2 : h.root.data.toList.length = 16 := by simpa using hrs
  have e1' : h.prev.data.size = 16 := by simpa using hps
  have e2' : h.root.data.size = 16 := by simpa using hrs
  simp [headT, joinTo, headL, e1', e2']
  omega
/-- The text of which a head's sum is the sum. -/
def headX (h : HeadV) : List UInt8 := [104, 101, 97, 100, 32] ++ headT h
def headSum (h : HeadV) : List UInt8 := if headOkB h = true then sumB (headX h) else []
def headMeets (h : HeadV) : Bool := headOkB h && decide ((headOf (headX h) : Int) / 65536 * h.diff < 32768)
theorem headSum_no {h : HeadV} (hok : headOkB h = false) : headSum h = [] := by rw [headSum, hok]; rfl
theorem headSum_yes {h : HeadV} (hok : headOkB h = true) : headSum h = sumB (headX h) := by rw [headSum, if_pos hok]
theorem headXs (h : HeadV) : ((⟨#[104, 101, 97, 100, 32]⟩ : ByteArray) ++ ⟨(headT h).toArray⟩).data.toList = headX h := by simp [headX]
theorem headXz {h : HeadV} (hok : headOkB h = true) : ((⟨#[104, 101, 97, 100, 32]⟩ : ByteArray) ++ ⟨(headT h).toArray⟩).size ≤ 1073741824 := by
  have := headT_len hok
  have e1 : (⟨#[104, 101, 97, 100, 32]⟩ : ByteArray).size = 5 := rfl
  have e3 : (⟨(headT h).toArray⟩ : ByteArray).size = (headT h).length := by simp [ByteArray.size]
  rw [ByteArray.size_append, e1, e3]
  omega

set_option maxHeartbeats 1000000 in
set_option maxRecDepth 100000 in
theorem specL3Sum (h : HeadV) (w : World) (hok : headOkB h = true) :
    Calls Tryz.prog 61 #[headVal h] w fun e w' => e = .returned (.string ⟨(sumB (headX h)).toArray⟩) ∧ Below w.heap.size w w' := by
  unfold headVal
  have hpt := fun w' => specL3Put h w' hok
  have hsz := headXz hok
  have HX : Hid (_ = headX h) := headXs h
  have htl := headT_len hok
  generalize headT h = ht at hpt hsz HX htl
  generalize headX h = hx at HX
  have S0 : HSt w _ w.heap.size h.prev h.root h.time h.diff h.nonce := HSt.new w 24 h.prev h.root h.time h.diff h.nonce
  clear hok
  go_enter Tryz.func61, Tryz.ntmps61
  go_wp2_with fail
  refine (hpt _).mono ?_
  rintro e w2 ⟨rfl, b2⟩
  have S2 := S0.call b2
  clear hpt
  go_wp2_with fail
  refine (specSum _ _ hsz).mono ?_
  rintro e w3 ⟨rfl, b3⟩
  rw [HX.out]
  go_wp2_with fail
  go_ret
  exact ⟨rfl, (S2.call b3).2.1⟩

end Go.Proofs.YtialhnocknogpaaGreatDoor

set_option linter.unusedVariables false
namespace Go.Proofs.YtialhnocknogpaaGreatDoor
open Go.RowKit Go.Deep

def peakB (p : PeakV) : ByteArray := p.sum ++ ⟨#[32]⟩ ++ ⟨(Lib.decDigits p.work.toNat).toArray⟩ ++ ⟨#[32]⟩ ++ ⟨(Lib.decDigits p.count.toNat).toArray⟩
def rrT (ps : List PeakV) : Nat → List UInt8
  | 0 => [114, 97, 110, 103, 101]
  | k + 1 => rrT ps k ++ ([32] ++ (peakB (ps.getD k default)).data.toList)
def rangeRoot (ps : List PeakV) : List UInt8 := if rangeOkB ps = true then sumB (rrT ps ps.length) else []
theorem rr_no {ps : List PeakV} (h : rangeOkB ps = false) : rangeRoot ps = [] := by rw [rangeRoot, h]; rfl
theorem rr_yes {ps : List PeakV} (h : rangeOkB ps = true) : rangeRoot ps = sumB (rrT ps ps.length) := by rw [rangeRoot, if_pos h]
theorem rangeOk_peak {ps : List PeakV} (h : rangeOkB ps = true) (i : Nat) (hi : i < ps.length) : peakOkB (ps.getD i default) = true := by
  rw [rangeOkB, Bool.and_eq_true, List.all_eq_true] at h
  have := h.1 i (List.mem_range.2 hi)
  rw [stepOk, Bool.and_eq_true] at this
  exact this.1
theorem cnt_ge {ps : List PeakV} (h : rangeOkB ps = true) : ∀ k, k ≤ ps.length → (k : Int) ≤ cntTo ps k
  | 0, _ => by simp [cntTo]
  | k + 1, hk => by
    have ih := cnt_ge h k (by omega)
    have := (rangeOk_at h k (by omega)).1
    rw [cntTo]
    omega
theorem range_len {ps : List PeakV} (h : rangeOkB ps = true) : ps.length ≤ 20 := by
  have h1 := cnt_ge h ps.length (Nat.le_refl _)
  rw [rangeOkB, Bool.and_eq_true, decide_eq_true_eq] at h
  omega
theorem peakOk_sum {p : PeakV} (h : peakOkB p = true) : isSum p.sum.data.toList = true := by
  simp only [peakOkB, Bool.and_eq_true] at h
  exact h.1
theorem peakB_size {p : PeakV} (h : peakOkB p = true) : (peakB p).size ≤ 100 := by
  have h1 := sum_size (peakOk_sum h)
  have h2 := peakOk_in h
  have hw : (Lib.decDigits p.work.toNat).length ≤ 19 := decLen (by omega)
  have hc : (Lib.decDigits p.count.toNat).length ≤ 19 := decLen (by omega)
  have e1 : (⟨(Lib.decDigits p.work.toNat).toArray⟩ : ByteArray).size = (Lib.decDigits p.work.toNat).length := by show (Lib.decDigits p.work.toNat).toArray.size = _; simp
  have e2 : (⟨(Lib.decDigits p.count.toNat).toArray⟩ : ByteArray).size = (Lib.decDigits p.count.toNat).length := by show (Lib.decDigits p.count.toNat).toArray.size = _; simp
  have e32 : (⟨#[32]⟩ : ByteArray).size = 1 := rfl
  unfold peakB
  rw [ByteArray.size_append, ByteArray.size_append, ByteArray.size_append, ByteArray.size_append, h1, e1, e2, e32]
  omega
theorem rrT_len {ps : List PeakV} (h : rangeOkB ps = true) : ∀ k, k ≤ ps.length → (rrT ps k).length ≤ 5 + 101 * k
  | 0, _ => by simp [rrT]
  | k + 1, hk => by
    have ih := rrT_len h k (by omega)
    have h1 := peakB_size (rangeOk_peak h k (by omega))
    have e : (peakB (ps.getD k default)).data.toList.length = (peakB (ps.getD k default)).size := by simp
    rw [rrT, List.length_append, List.length_append, e, show ([32] : List UInt8).length = 1 from rfl]
    omega
/-- A peak's block. -/
def PSt (w w' : World) (g : Nat) (s : ByteArray) (a b : Int) : Prop := (w'.cell? ⟨g, 0, none⟩ = some (.string s) ∧ w'.cell? ⟨g, 1, none⟩ = some (.int .i64 a) ∧ w'.cell? ⟨g, 2, none⟩ = some (.int .i64 b)) ∧ Below w.heap.size w w' ∧ g < w'.heap.size
theorem PSt.out {w w' : World} {g : Nat} {s : ByteArray} {a b : Int} (h : PSt w w' g s a b) : w'.cell? ⟨g, 0, none⟩ = some (.string s) ∧ w'.cell? ⟨g, 1, none⟩ = some (.int .i64 a) ∧ w'.cell? ⟨g, 2, none⟩ = some (.int .i64 b) := h.1
theorem PSt.drew {w w' : World} {g : Nat} {s : ByteArray} {a b : Int} (h : PSt w w' g s a b) : PSt w w'.drew g s a b := ⟨h.1, h.2.1.drew, h.2.2⟩
theorem PSt.call {w w' w'' : World} {g : Nat} {s : ByteArray} {a b : Int} (h : PSt w w' g s a b) (hb : Below w'.heap.size w' w'') : PSt w w'' g s a b :=
  ⟨⟨(hb.cell (p := ⟨g, 0, none⟩) h.2.2).trans h.1.1, (hb.cell (p := ⟨g, 1, none⟩) h.2.2).trans h.1.2.1, (hb.cell (p := ⟨g, 2, none⟩) h.2.2).trans h.1.2.2⟩, h.2.1.trans (hb.mono h.2.1.size), Nat.lt_of_lt_of_le h.2.2 hb.size⟩
theorem PSt.new (w : World) (T : TypeId) (s : ByteArray) (a b : Int) : PSt w (w.alloc (.cells #[.string s, .int .i64 a, .int .i64 b] T)) w.heap.size s a b := by
  refine ⟨⟨?_, ?_, ?_⟩, (Below.refl _ w).alloc (Nat.le_refl _) _, by simp⟩ <;> (rw [Lib.cell_of_heap (heap_alloc_new w _)]; rfl)

set_option maxHeartbeats 1000000 in
set_option maxRecDepth 100000 in
theorem implPeakPut (p : PeakV) (w : World) (hok : peakOkB p = true) (hP : TabP w) :
    Calls Tryz.prog 51 #[.agg #[.string p.sum, .int .i64 p.work, .int .i64 p.count], .string ⟨#[32]⟩] w fun e w' => e = .returned (.string (peakB p)) ∧ Below w.heap.size w w' := by
  have h2 := peakOk_in hok
  obtain ⟨s, wk, ct⟩ := p
  dsimp only at h2 ⊢
  obtain ⟨a, rfl⟩ : ∃ a : Nat, wk = (a : Int) := ⟨wk.toNat, by omega⟩
  obtain ⟨b, rfl⟩ : ∃ b : Nat, ct = (b : Int) := ⟨ct.toNat, by omega⟩
  have HV : Hid (peakB ⟨s, (a : Int), (b : Int)⟩ = s ++ ⟨#[32]⟩ ++ ⟨(Lib.decDigits a).toArray⟩ ++ ⟨#[32]⟩ ++ ⟨(Lib.decDigits b).toArray⟩) := rfl
  have HP : Hid (∀ w', Below w.heap.size w w' → TabP w') := fun w' hb => TabP.below hP hb (Nat.le_refl _)
  have hia := fun w' hp => implItoa a w' (by omega) hp
  have hib := fun w' hp => implItoa b w' (by omega) hp
  have hps := sum_size (peakOk_sum hok)
  dsimp only at hps
  have hal : (Lib.decDigits a).length ≤ 19 := decLen (by omega)
  have hbl : (Lib.decDigits b).length ≤ 19 := decLen (by omega)
  generalize peakB ⟨s, (a : Int), (b : Int)⟩ = R at HV ⊢
  generalize Lib.decDigits a = da at hia HV hal
  generalize Lib.decDigits b = db at hib HV hbl
  have q1 : ¬ 9223372036854775807 < 17 + da.length := by omega
  have q2 : ¬ 9223372036854775807 < 17 + da.length + 1 := by omega
  have q3 : ¬ 9223372036854775807 < 17 + da.length + 1 + db.length := by omega
  have S0 : PSt w _ w.heap.size s (a : Int) (b : Int) := PSt.new w 54 s (a : Int) (b : Int)
  clear hP hok h2
  go_enter Tryz.func51, Tryz.ntmps51
  go_wp2_with fail
  go_region_held3 (fun w' => w'.cell? ⟨w.heap.size, 0, none⟩ = some (.string s) ∧ w'.cell? ⟨w.heap.size, 1, none⟩ = some (.int .i64 (a : Int)) ∧ w'.cell? ⟨w.heap.size, 2, none⟩ = some (.int .i64 (b : Int)))
    (first | (with_reducible first | exact S2.out | exact S1.out | exact S0.out | exact S0.drew.out) | go_keep)
    (first
      | (go_at_call 56; refine (hib _ (HP.out _ S1.2.1)).mono ?_; rintro e w2 ⟨rfl, b2⟩; have S2 : PSt w w2 w.heap.size s (a : Int) (b : Int) := S1.call b2)
      | (go_at_call 56; refine (hia _ (HP.out _ S0.drew.2.1)).mono ?_; rintro e w1 ⟨rfl, b1⟩; have S1 : PSt w w1 w.heap.size s (a : Int) (b : Int) := S0.drew.call b1))
  go_wp2_with fail
  go_ret
  exact ⟨by rw [HV.out]; rfl, S2.2.1⟩

set_option maxHeartbeats 1000000 in
set_option maxRecDepth 100000 in
theorem specPeakText (p : PeakV) (w : World) (hok : peakOkB p = true) :
    Calls Tryz.prog 39 #[.agg #[.string p.sum, .int .i64 p.work, .int .i64 p.count]] w fun e w' => e = .returned (.string (peakB p)) ∧ Below w.heap.size w w' := by
  have h2 := peakOk_in hok
  obtain ⟨s, wk, ct⟩ := p
  dsimp only at h2 ⊢
  obtain ⟨a, rfl⟩ : ∃ a : Nat, wk = (a : Int) := ⟨wk.toNat, by omega⟩
  obtain ⟨b, rfl⟩ : ∃ b : Nat, ct = (b : Int) := ⟨ct.toNat, by omega⟩
  have HV : Hid (peakB ⟨s, (a : Int), (b : Int)⟩ = s ++ ⟨#[32]⟩ ++ ⟨(Lib.decDigits a).toArray⟩ ++ ⟨#[32]⟩ ++ ⟨(Lib.decDigits b).toArray⟩) := rfl
  have hia := fun w' => specDec a w' (by omega)
  have hib := fun w' => specDec b w' (by omega)
  have hps := sum_size (peakOk_sum hok)
  dsimp only at hps
  have hal : (Lib.decDigits a).length ≤ 19 := decLen (by omega)
  have hbl : (Lib.decDigits b).length ≤ 19 := decLen (by omega)
  generalize peakB ⟨s, (a : Int), (b : Int)⟩ = R at HV ⊢
  generalize Lib.decDigits a = da at hia HV hal
  generalize Lib.decDigits b = db at hib HV hbl
  have q1 : ¬ 9223372036854775807 < 17 + da.length := by omega
  have q2 : ¬ 9223372036854775807 < 17 + da.length + 1 := by omega
  have q3 : ¬ 9223372036854775807 < 17 + da.length + 1 + db.length := by omega
  have S0 : PSt w _ w.heap.size s (a : Int) (b : Int) := PSt.new w 54 s (a : Int) (b : Int)
  clear hok h2
  go_enter Tryz.func39, Tryz.ntmps39
  go_wp2_with fail
  go_region_held3 (fun w' => w'.cell? ⟨w.heap.size, 0, none⟩ = some (.string s) ∧ w'.cell? ⟨w.heap.size, 1, none⟩ = some (.int .i64 (a : Int)) ∧ w'.cell? ⟨w.heap.size, 2, none⟩ = some (.int .i64 (b : Int)))
    (first | (with_reducible first | exact S2.out | exact S1.out | exact S0.out | exact S0.drew.out) | go_keep)
    (first
      | (go_at_call 65; have q9 := S1.out; refine (hib _).mono ?_; rintro e w2 ⟨rfl, b2⟩; have S2 : PSt w w2 w.heap.size s (a : Int) (b : Int) := S1.call b2)
      | (go_at_call 65; refine (hia _).mono ?_; rintro e w1 ⟨rfl, b1⟩; have S1 : PSt w w1 w.heap.size s (a : Int) (b : Int) := S0.drew.call b1))
  go_wp2_with fail
  go_ret
  exact ⟨by rw [HV.out]; rfl, S2.2.1⟩

set_option maxHeartbeats 1000000 in
set_option maxRecDepth 100000 in
theorem specL5Root (g n cap : Nat) (ps : List PeakV) (w : World) (h : AtP w g ps) (hn : n = ps.length) (hr : rangeOkB ps = true) :
    Calls Tryz.prog 23 #[.slice (some ⟨g, 0, none⟩) n cap] w fun e w' => e = .returned (.string ⟨(sumB (rrT ps n)).toArray⟩) ∧ Below w.heap.size w w' := by
  have HA : Hid (AtP w g ps) := h
  have HN : Hid (n = ps.length) := hn
  have HPK : Hid (∀ i, i < ps.length → peakOkB (ps.getD i default) = true) := fun i hi => rangeOk_peak hr i hi
  have HRL : Hid (∀ k, k ≤ n → (rrT ps k).length ≤ 5 + 101 * k) := fun k hk => rrT_len hr k (by rw [← hn]; exact hk)
  have hn20 : n ≤ 20 := by rw [hn]; exact range_len hr
  clear h hn hr
  go_enter Tryz.func23, Tryz.ntmps23
  go_wp2_with fail
  go_loopw [3, 4] (fun v i wr => ∃ (k : Nat) (s : ByteArray), k ≤ n ∧ i = .int .i64 (k : Int) ∧ v = .string s ∧ s.size ≤ 5 + 101 * k ∧ Hid (s.data.toList = rrT ps k) ∧ Hid (Below w.heap.size w wr)) (fun _ i _ => n - (intOf i).toNat)
  case atStart => exact ⟨0, ⟨#[114, 97, 110, 103, 101]⟩, by omega, rfl, rfl, (by show (#[114, 97, 110, 103, 101] : Array UInt8).size ≤ _; simp), rfl, Below.refl _ _⟩
  case round =>
    obtain ⟨k, s, hk, rfl, rfl, hs, HS, HB⟩ := hrel
    by_cases hlt : k < n
    · have hkl : k < ps.length := by rw [← HN.out]; exact hlt
      have HAr : Hid (AtP wr g ps) := HA.out.below HB.out HA.out.1
      have c0 := AtP.c0 HAr.out k hkl
      have c1 := AtP.c1 HAr.out k hkl
      have c2 := AtP.c2 HAr.out k hkl
      have lk : (k : Int) < (n : Int) := by omega
      have lk0 : (0 : Int) ≤ (k : Int) := by omega
      have wk : IntKind.i64.wrap ((k : Int) + 1) = (k : Int) + 1 := by rw [IntKind.wrap_i64]; omega
      have HK1 : Hid (k + 1 ≤ n) := hlt
      have HT : Hid (rrT ps (k + 1) = rrT ps k ++ ([32] ++ (peakB (ps.getD k default)).data.toList)) := rfl
      have hpp := fun w' => specPeakText (ps.getD k default) w' (HPK.out k hkl)
      have hpz := peakB_size (HPK.out k hkl)
      generalize peakB (ps.getD k default) = pb at hpp hpz HT
      generalize ps.getD k default = p at c0 c1 c2 hpp
      have q1 : ¬ 9223372036854775807 < s.size + 1 := by omega
      have q2 : ¬ 9223372036854775807 < s.size + 1 + pb.size := by omega
      have HZ : Hid ((s ++ ⟨#[32]⟩ ++ pb).size ≤ 5 + 101 * (k + 1)) := by
        have e32 : (⟨#[32]⟩ : ByteArray).size = 1 := rfl
        show _ ≤ _
        rw [ByteArray.size_append, ByteArray.size_append, e32]
        omega
      have HS2 : Hid ((s ++ ⟨#[32]⟩ ++ pb).data.toList = rrT ps (k + 1)) := by
        show _ = _
        rw [HT.out, ← HS.out]
        simp
      clear hkl
      go_wp2_with fail
      refine (hpp _).mono ?_
      rintro e w5 ⟨rfl, b5⟩
      have B5 : Hid (Below w.heap.size w w5) := HB.out.trans (b5.mono HB.out.size)
      clear b5 c0 c1 c2 hpp
      go_wp2_with fail
      go_roundw
      case rel => exact ⟨k + 1, s ++ ⟨#[32]⟩ ++ pb, HK1.out, by go_num, rfl, HZ.out, HS2, B5⟩
      case measure => have := HK1.out; simp [intOf]; omega
    · obtain rfl : k = n := by omega
      have hsm := fun w' => specSum s w' (by omega)
      rw [HS.out] at hsm
      go_wp2_with fail
      refine (hsm _).mono ?_
      rintro e w6 ⟨rfl, b6⟩
      go_wp2_with fail
      go_ret
      exact ⟨rfl, HB.out.trans (b6.mono HB.out.size)⟩

end Go.Proofs.YtialhnocknogpaaGreatDoor

set_option linter.unusedVariables false
namespace Go.Proofs.YtialhnocknogpaaGreatDoor
open Go.RowKit Go.Deep

def leafX (h : HeadV) : List UInt8 := [108, 101, 97, 102, 32] ++ headT h
def leafP (h : HeadV) : PeakV := ⟨⟨(sumB (leafX h)).toArray⟩, h.diff, 1⟩
def bothX (a b : PeakV) : ByteArray := ((⟨#[112, 101, 97, 107, 32]⟩ : ByteArray) ++ peakB a) ++ (⟨#[32]⟩ : ByteArray) ++ peakB b
def bothP (a b : PeakV) : PeakV := ⟨⟨(sumB (bothX a b).data.toList).toArray⟩, a.work + b.work, a.count + b.count⟩
theorem leafXs (h : HeadV) : ((⟨#[108, 101, 97, 102, 32]⟩ : ByteArray) ++ ⟨(headT h).toArray⟩).data.toList = leafX h := by simp [leafX]
theorem leafXz {h : HeadV} (hok : headOkB h = true) : ((⟨#[108, 101, 97, 102, 32]⟩ : ByteArray) ++ ⟨(headT h).toArray⟩).size ≤ 1073741824 := by
  have := headT_len hok
  have e1 : (⟨#[108, 101, 97, 102, 32]⟩ : ByteArray).size = 5 := rfl
  have e3 : (⟨(headT h).toArray⟩ : ByteArray).size = (headT h).length := by simp [ByteArray.size]
  rw [ByteArray.size_append, e1, e3]
  omega
theorem bothX_size {a b : PeakV} (ha : peakOkB a = true) (hb : peakOkB b = true) : (bothX a b).size ≤ 1073741824 := by
  have h1 := peakB_size ha
  have h2 := peakB_size hb
  have e1 : (⟨#[112, 101, 97, 107, 32]⟩ : ByteArray).size = 5 := rfl
  have e2 : (⟨#[32]⟩ : ByteArray).size = 1 := rfl
  unfold bothX
  rw [ByteArray.size_append, ByteArray.size_append, ByteArray.size_append, e1, e2]
  omega
/-- The peak and the work on the left of it, so many steps up. -/
def walkTo (p : PeakV) (at_ : Nat) (ss : List PeakV) : Nat → Option (PeakV × Int)
  | 0 => some (p, 0)
  | i + 1 => match walkTo p at_ ss i with
    | none => none
    | some (q, l) => if (peakOkB (ss.getD i default) && decide ((ss.getD i default).count = q.count)) = true then (if at_ / 2 ^ i % 2 = 1 then some (bothP (ss.getD i default) q, l + (ss.getD i default).work) else some (bothP q (ss.getD i default), l)) else none
theorem walk_none {p : PeakV} {a : Nat} {ss : List PeakV} {i : Nat} (h : walkTo p a ss i = none) : ∀ j, walkTo p a ss (i + j) = none
  | 0 => h
  | j + 1 => by rw [← Nat.add_assoc, walkTo, walk_none h j]
theorem walk_bad {p : PeakV} {a : Nat} {ss : List PeakV} {i : Nat} {q : PeakV} {l : Int} (h : walkTo p a ss i = some (q, l)) (hb : (peakOkB (ss.getD i default) && decide ((ss.getD i default).count = q.count)) = false) (hi : i < ss.length) : walkTo p a ss ss.length = none := by
  have h1 : walkTo p a ss (i + 1) = none := by rw [walkTo, h]; simp only [hb]; rfl
  have := walk_none h1 (ss.length - (i + 1))
  rwa [show i + 1 + (ss.length - (i + 1)) = ss.length from by omega] at this
theorem walk_notok {p : PeakV} {a : Nat} {ss : List PeakV} {i : Nat} (hi : i < ss.length) (hb : peakOkB (ss.getD i default) = false) : walkTo p a ss ss.length = none := by
  cases h : walkTo p a ss i with
  | none =>
    have := walk_none h (ss.length - i)
    rwa [show i + (ss.length - i) = ss.length from by omega] at this
  | some y =>
    obtain ⟨q, l⟩ := y
    exact walk_bad h (by rw [hb]; rfl) hi
theorem walk_left {p : PeakV} {a : Nat} {ss : List PeakV} {i : Nat} {q : PeakV} {l : Int} (h : walkTo p a ss i = some (q, l)) (hb : (peakOkB (ss.getD i default) && decide ((ss.getD i default).count = q.count)) = true) (hm : a / 2 ^ i % 2 = 1) : walkTo p a ss (i + 1) = some (bothP (ss.getD i default) q, l + (ss.getD i default).work) := by
  rw [walkTo, h]; simp only [hb, if_pos hm]; rfl
theorem walk_right {p : PeakV} {a : Nat} {ss : List PeakV} {i : Nat} {q : PeakV} {l : Int} (h : walkTo p a ss i = some (q, l)) (hb : (peakOkB (ss.getD i default) && decide ((ss.getD i default).count = q.count)) = true) (hm : ¬ a / 2 ^ i % 2 = 1) : walkTo p a ss (i + 1) = some (bothP q (ss.getD i default), l) := by
  rw [walkTo, h]; simp only [hb, if_neg hm]; rfl
/-- A peak that stands so many steps up. -/
structure Fine (q : PeakV) (l : Int) (i : Nat) : Prop where
  cnt : q.count = ((2 ^ i : Nat) : Int)
  hi : i ≤ 5
  sum : isSum q.sum.data.toList = true
  wk : q.count ≤ q.work ∧ q.work ≤ q.count * 8
  l0 : 0 ≤ l
  l1 : l ≤ q.work
theorem fine_leaf {h : HeadV} (hok : headOkB h = true) : Fine (leafP h) 0 0 := by
  have h1 := headOk_in hok
  refine ⟨rfl, by omega, by show isSum (sumB (leafX h)).toArray.toList = true; rw [List.toList_toArray]; exact isSum_sumB _, ?_, by omega, ?_⟩
  · show (1 : Int) ≤ h.diff ∧ h.diff ≤ 1 * 8
    omega
  · show (0 : Int) ≤ h.diff
    omega
theorem fine_ok {q : PeakV} {l : Int} {i : Nat} (h : Fine q l i) (h5 : q.count ≤ 20) : peakOkB q = true := by
  have := h.wk
  have hp : (0 : Int) < ((2 ^ i : Nat) : Int) := by exact_mod_cast Nat.two_pow_pos i
  have hc := h.cnt
  simp only [peakOkB, h.sum, Bool.true_and, Bool.and_eq_true, decide_eq_true_eq]
  omega
theorem fine_lt {q s : PeakV} {l : Int} {i : Nat} (h : Fine q l i) (hb : (peakOkB s && decide (s.count = q.count)) = true) : peakOkB s = true ∧ s.count = q.count ∧ peakOkB q = true ∧ i ≤ 4 := by
  rw [Bool.and_eq_true, decide_eq_true_eq] at hb
  have h1 := peakOk_in hb.1
  refine ⟨hb.1, hb.2, fine_ok h (by omega), ?_⟩
  rcases Nat.lt_or_ge 4 i with h' | h'
  · obtain rfl : i = 5 := by have := h.hi; omega
    have := h.cnt
    have e : ((2 ^ 5 : Nat) : Int) = 32 := rfl
    omega
  · exact h'
theorem isSum_both (a b : PeakV) : isSum (bothP a b).sum.data.toList = true := by
  show isSum (sumB _).toArray.toList = true
  rw [List.toList_toArray]
  exact isSum_sumB _
theorem fine_left {q s : PeakV} {l : Int} {i : Nat} (h : Fine q l i) (hb : (peakOkB s && decide (s.count = q.count)) = true) : Fine (bothP s q) (l + s.work) (i + 1) := by
  obtain ⟨h1, h2, _, h4⟩ := fine_lt h hb
  have h5 := peakOk_in h1
  have hw := h.wk
  have e : ((2 ^ (i + 1) : Nat) : Int) = 2 * ((2 ^ i : Nat) : Int) := by rw [Nat.pow_succ]; push_cast; omega
  have hc := h.cnt
  have h0 := h.l0
  have hl := h.l1
  refine ⟨?_, by omega, isSum_both _ _, ?_, by omega, ?_⟩
  · show s.count + q.count = _
    omega
  · show s.count + q.count ≤ s.work + q.work ∧ s.work + q.work ≤ (s.count + q.count) * 8
    omega
  · show l + s.work ≤ s.work + q.work
    omega
theorem fine_right {q s : PeakV} {l : Int} {i : Nat} (h : Fine q l i) (hb : (peakOkB s && decide (s.count = q.count)) = true) : Fine (bothP q s) l (i + 1) := by
  obtain ⟨h1, h2, _, h4⟩ := fine_lt h hb
  have h5 := peakOk_in h1
  have hw := h.wk
  have e : ((2 ^ (i + 1) : Nat) : Int) = 2 * ((2 ^ i : Nat) : Int) := by rw [Nat.pow_succ]; push_cast; omega
  have hc := h.cnt
  have h0 := h.l0
  have hl := h.l1
  refine ⟨?_, by omega, isSum_both _ _, ?_, by omega, ?_⟩
  · show q.count + s.count = _
    omega
  · show q.count + s.count ≤ q.work + s.work ∧ q.work + s.work ≤ (q.count + s.count) * 8
    omega
  · show l ≤ q.work + s.work
    omega
/-- The bit of a place that tells in which half it is. -/
theorem bit_half : ∀ (a : Fin 21) (i : Fin 5), (bits .and .i64 ((a.val : Nat) : Int) ((2 ^ i.val : Nat) : Int) != 0) = decide (a.val / 2 ^ i.val % 2 = 1) := by decide +kernel
def samePB (p q : PeakV) : Bool := p.sum.toList == q.sum.toList && (p.work == q.work && p.count == q.count)
/-- What a head's way to a peak tells: the work on the left of it, or nothing. -/
def climbV (top : PeakV) (h : HeadV) (a : Nat) (ss : List PeakV) : Int := match walkTo (leafP h) a ss ss.length with
  | none => -1
  | some (q, l) => if samePB q top = true then l else -1
theorem climb_none {top : PeakV} {h : HeadV} {a : Nat} {ss : List PeakV} (hw : walkTo (leafP h) a ss ss.length = none) : climbV top h a ss = -1 := by rw [climbV, hw]
theorem climb_some {top : PeakV} {h : HeadV} {a : Nat} {ss : List PeakV} {q : PeakV} {l : Int} (hw : walkTo (leafP h) a ss ss.length = some (q, l)) : climbV top h a ss = if samePB q top = true then l else -1 := by rw [climbV, hw]
/-- The peak in which a place is. -/
def placeP (ps : List PeakV) (a : Int) : Option Nat := (List.range ps.length).find? fun k => decide (a < cntTo ps (k + 1))
theorem place_at {ps : List PeakV} {a : Int} {k : Nat} (hk : k < ps.length) (h : a < cntTo ps (k + 1)) (hj : ∀ j, j < k → ¬ a < cntTo ps (j + 1)) : placeP ps a = some k := by
  rw [placeP, List.find?_range_eq_some]
  exact ⟨decide_eq_true h, List.mem_range.2 hk, fun j hjk => by rw [decide_eq_false (hj j hjk)]; rfl⟩
theorem place_no {ps : List PeakV} {a : Int} (hj : ∀ j, j < ps.length → ¬ a < cntTo ps (j + 1)) : placeP ps a = none := by
  rw [placeP, List.find?_eq_none]
  intro j hj2
  simpa using hj j (List.mem_range.1 hj2)
/-- What a proof tells of a head at a place: the work ahead of it, or nothing. -/
def checkV (root : ByteArray) (h : HeadV) (a : Int) (ps ss : List PeakV) : Int :=
  if headOkB h = true ∧ 0 ≤ a ∧ ss.length ≤ 8 ∧ rangeOkB ps = true ∧ (⟨(rangeRoot ps).toArray⟩ : ByteArray) = root then
    match placeP ps a with
    | none => -1
    | some k => if climbV (ps.getD k default) h (a - cntTo ps k).toNat ss < 0 then -1 else wrkTo ps k + climbV (ps.getD k default) h (a - cntTo ps k).toNat ss
  else -1
theorem check_no {root : ByteArray} {h : HeadV} {a : Int} {ps ss : List PeakV} (hn : ¬ (headOkB h = true ∧ 0 ≤ a ∧ ss.length ≤ 8 ∧ rangeOkB ps = true ∧ (⟨(rangeRoot ps).toArray⟩ : ByteArray) = root)) : checkV root h a ps ss = -1 := by rw [checkV, if_neg hn]
theorem check_none {root : ByteArray} {h : HeadV} {a : Int} {ps ss : List PeakV} (hp : placeP ps a = none) : checkV root h a ps ss = -1 := by
  unfold checkV
  split
  · rw [hp]
  · rfl
theorem check_some {root : ByteArray} {h : HeadV} {a : Int} {ps ss : List PeakV} {k : Nat} (hy : headOkB h = true ∧ 0 ≤ a ∧ ss.length ≤ 8 ∧ rangeOkB ps = true ∧ (⟨(rangeRoot ps).toArray⟩ : ByteArray) = root) (hp : placeP ps a = some k) : checkV root h a ps ss = if climbV (ps.getD k default) h (a - cntTo ps k).toNat ss < 0 then -1 else wrkTo ps k + climbV (ps.getD k default) h (a - cntTo ps k).toNat ss := by
  rw [checkV, if_pos hy, hp]

/-- Whether peaks can stand beside a way. -/
def stepsB (ss : List PeakV) : Bool := decide (ss.length ≤ 8) && ss.all peakOkB
theorem steps_at {ss : List PeakV} (h : stepsB ss = true) (i : Nat) (hi : i < ss.length) : peakOkB (ss.getD i default) = true := by
  rw [stepsB, Bool.and_eq_true, List.all_eq_true] at h
  rw [List.getD_eq_getElem?_getD, List.getElem?_eq_getElem hi]
  exact h.2 _ (List.getElem_mem hi)
theorem steps_len {ss : List PeakV} (h : stepsB ss = true) : ss.length ≤ 8 := by
  rw [stepsB, Bool.and_eq_true, decide_eq_true_eq] at h
  exact h.1
theorem steps_long {ss : List PeakV} (h : ¬ ss.length ≤ 8) : stepsB ss = false := by rw [stepsB, decide_eq_false h]; rfl
theorem steps_bad {ss : List PeakV} {i : Nat} (hi : i < ss.length) (h : peakOkB (ss.getD i default) = false) : stepsB ss = false := by
  cases hs : stepsB ss with
  | false => rfl
  | true => rw [steps_at hs i hi] at h; cases h
theorem steps_good {ss : List PeakV} (h8 : ss.length ≤ 8) (h : ∀ i, i < ss.length → peakOkB (ss.getD i default) = true) : stepsB ss = true := by
  rw [stepsB, decide_eq_true h8, Bool.true_and, List.all_eq_true]
  intro q hq
  obtain ⟨j, hj, rfl⟩ := List.mem_iff_getElem.1 hq
  have := h j hj
  rwa [List.getD_eq_getElem?_getD, List.getElem?_eq_getElem hj] at this
theorem check_steps {root : ByteArray} {h : HeadV} {a : Int} {ps ss : List PeakV} (hs : stepsB ss = false) : checkV root h a ps ss = -1 := by
  by_cases h8 : ss.length ≤ 8
  · have hex : ∃ i, i < ss.length ∧ peakOkB (ss.getD i default) = false := by
      refine Classical.byContradiction fun hn => ?_
      have := steps_good h8 (fun i hi => by
        cases hp : peakOkB (ss.getD i default) with
        | true => rfl
        | false => exact absurd ⟨i, hi, hp⟩ hn)
      rw [this] at hs
      cases hs
    obtain ⟨i, hi, hb⟩ := hex
    unfold checkV
    split
    · split
      · rfl
      · rw [climb_none (walk_notok hi hb)]
        rfl
    · rfl
  · exact check_no (fun hh => h8 hh.2.2.1)

end Go.Proofs.YtialhnocknogpaaGreatDoor

set_option linter.unusedVariables false
namespace Go.Proofs.YtialhnocknogpaaGreatDoor
open Go.ChangeShapes Go.WideShapes Go.ChangeAt Go.RowKit Go.Deep

def enHead (p : HeadV) : List Value := [.string p.prev, .string p.root, .int .i64 p.time, .int .i64 p.diff, .int .i64 p.nonce]
theorem enHead_len (p : HeadV) : (enHead p).length = 5 := rfl
/-- Its texts can be held. -/
def wfHead (p : HeadV) : Prop := p.prev.size ≤ maxLen ∧ p.root.size ≤ maxLen
/-- Its texts are small. -/
def smallHead (p : HeadV) : Prop := p.prev.size ≤ 1048576 ∧ p.root.size ≤ 1048576
abbrev IsHeads (w : World) (a : Option Addr) (len cap : Nat) (l : List HeadV) : Prop := IsFlat enHead wfHead 5 w a len cap l
abbrev RowHead (w : World) (g : Nat) (l : List HeadV) : Prop := RowF enHead 24 w g l
abbrev AtHead (w : World) (g : Nat) (l : List HeadV) : Prop := AtF enHead 5 w g l
theorem AtHead.c0 {w : World} {g : Nat} {l : List HeadV} (h : AtHead w g l) (i : Nat) (hi : i < l.length) : w.cell? ⟨g, i * 5, none⟩ = some (.string (l.getD i default).prev) := h.2 i 0 hi (by decide)
theorem AtHead.c1 {w : World} {g : Nat} {l : List HeadV} (h : AtHead w g l) (i : Nat) (hi : i < l.length) : w.cell? ⟨g, i * 5 + 1, none⟩ = some (.string (l.getD i default).root) := h.2 i 1 hi (by decide)
theorem AtHead.c2 {w : World} {g : Nat} {l : List HeadV} (h : AtHead w g l) (i : Nat) (hi : i < l.length) : w.cell? ⟨g, i * 5 + 2, none⟩ = some (.int .i64 (l.getD i default).time) := h.2 i 2 hi (by decide)
theorem AtHead.c3 {w : World} {g : Nat} {l : List HeadV} (h : AtHead w g l) (i : Nat) (hi : i < l.length) : w.cell? ⟨g, i * 5 + 3, none⟩ = some (.int .i64 (l.getD i default).diff) := h.2 i 3 hi (by decide)
theorem AtHead.c4 {w : World} {g : Nat} {l : List HeadV} (h : AtHead w g l) (i : Nat) (hi : i < l.length) : w.cell? ⟨g, i * 5 + 4, none⟩ = some (.int .i64 (l.getD i default).nonce) := h.2 i 4 hi (by decide)
theorem cellsHead {w : World} {x : Addr} {p : HeadV} (h : ∀ j, j < 5 → w.cell? (x.add j) = (enHead p)[j]?) : w.cell? x = some (.string p.prev) ∧ w.cell? ⟨x.block, x.off + 1, none⟩ = some (.string p.root) ∧ w.cell? ⟨x.block, x.off + 2, none⟩ = some (.int .i64 p.time) ∧ w.cell? ⟨x.block, x.off + 3, none⟩ = some (.int .i64 p.diff) ∧ w.cell? ⟨x.block, x.off + 4, none⟩ = some (.int .i64 p.nonce) := by
  exact ⟨h 0 (by decide), h 1 (by decide), h 2 (by decide), h 3 (by decide), h 4 (by decide)⟩
theorem partsHead {cs : List Value} {a0 a1 a2 a3 a4 : Value} (hl : cs.length = 5) (h0 : (cs.drop 0).take 1 = [a0]) (h1 : (cs.drop 1).take 1 = [a1]) (h2 : (cs.drop 2).take 1 = [a2]) (h3 : (cs.drop 3).take 1 = [a3]) (h4 : (cs.drop 4).take 1 = [a4]) : cs = [a0, a1, a2, a3, a4] := by
  match cs, hl with
  | [x0, x1, x2, x3, x4], _ =>
    simp at h0 h1 h2 h3 h4
    subst h0 h1 h2 h3 h4
    rfl
theorem oneHead_i : Tryz.prog.cellsOf 3 = 1 := by kernel_rfl
theorem oneHead_s : Tryz.prog.cellsOf 9 = 1 := by kernel_rfl
theorem infoHead : (Tryz.prog.info? 24).map (fun i => (i.zero, i.size, i.bytes)) = some (some (.agg #[.string ⟨#[]⟩, .string ⟨#[]⟩, .int .i64 0, .int .i64 0, .int .i64 0]), 5, 56) := by kernel_rfl
def zeroHead : HeadV := ⟨⟨#[]⟩, ⟨#[]⟩, 0, 0, 0⟩
theorem makeHead (n : Nat) (hn : n ≤ 1099511627776) (w : World) : (Instr.makeSlice 73 (.int .i64 (n : Int)) (.int .i64 (n : Int))).run Tryz.prog w = .ok (.slice (some ⟨w.heap.size, 0, none⟩) n n) (w.alloc (.cells ((List.replicate n zeroHead).flatMap enHead).toArray 24)) := by
  obtain ⟨i, hi, hz, hs, hb⟩ := info_parts infoHead
  have hb' : (i.bytes : Int) * (n : Int) ≤ 281474976710656 := by rw [hb]; omega
  have hr := run_make (P := Tryz.prog) w 73 24 i _ Tryz.underlying73 hi hz .i64 .i64 (n : Int) (n : Int) (by omega) (by omega) hb' (by omega)
  simp only [Int.toNat_natCast, hs, Value.cells] at hr
  rw [← made_flat 5 enHead enHead_len (by decide) zeroHead n]
  exact hr
theorem RowHead.put {w : World} {g : Nat} {l : List HeadV} (h : RowHead w g l) (i : Nat) (hi : i < l.length) (p : HeadV) :
    RowHead (((((w.setCell ⟨g, i * 5, none⟩ (.string p.prev)).setCell ⟨g, i * 5 + 1, none⟩ (.string p.root)).setCell ⟨g, i * 5 + 2, none⟩ (.int .i64 p.time)).setCell ⟨g, i * 5 + 3, none⟩ (.int .i64 p.diff)).setCell ⟨g, i * 5 + 4, none⟩ (.int .i64 p.nonce)) g (l.set i p) := by
  show _ = _
  rw [← flat_put 5 enHead enHead_len l i p hi]
  exact (rowSet (rowSet (rowSet (rowSet (rowSet h _) _) _) _) _)

end Go.Proofs.YtialhnocknogpaaGreatDoor

set_option linter.unusedVariables false
namespace Go.Proofs.YtialhnocknogpaaGreatDoor
open Go.RowKit

def SzOk (zs : List ByteArray) (len : Nat) (e : Ending) : Prop := e = .returned (.int .i64 (-1)) ∨ ∃ r : Nat, e = .returned (.int .i64 (r : Int)) ∧ len ≤ 1048576 ∧ ∀ i, i < len → (zs.getD i ByteArray.empty).size ≤ 1048576
end Go.Proofs.YtialhnocknogpaaGreatDoor

set_option linter.unusedVariables false
namespace Go.Proofs.YtialhnocknogpaaGreatDoor
open Go.ChangeShapes Go.WideShapes Go.ChangeAt Go.RowKit Go.Deep

def blockVal (h : HeadV) (s : Value) : Value := .agg #[.string h.prev, .string h.root, .int .i64 h.time, .int .i64 h.diff, .int .i64 h.nonce, s]
theorem six_of_parts {cs : Array Value} {b : Value} {h : List Value} (hl : cs.toList.length = 6) (h0 : (cs.toList.drop 0).take 5 = h) (h1 : (cs.toList.drop 5).take 1 = [b]) : cs.toList = h ++ [b] := by
  rw [← h0, ← h1, List.drop_zero, List.take_of_length_le (l := cs.toList.drop 5) (by rw [List.length_drop, hl]; decide), List.take_append_drop]
theorem cellsStrs : Tryz.prog.cellsOf 68 = 1 := by kernel_rfl
/-- A block of memory, its cells written out. -/
def CBk (w : World) (g : Nat) (T : TypeId) (cs : Array Value) : Prop := w.heap[g]? = some (.cells cs T (0, 0))
theorem CBk.lt {w : World} {g : Nat} {T : TypeId} {cs : Array Value} (h : CBk w g T cs) : g < w.heap.size := by
  rcases Nat.lt_or_ge g w.heap.size with h' | h'
  · exact h'
  · simp [CBk, Array.getElem?_eq_none h'] at h
theorem CBk.below {w w' : World} {g B : Nat} {T : TypeId} {cs : Array Value} (h : CBk w g T cs) (hb : Below B w w') (hg : g < B) : CBk w' g T cs := by
  unfold CBk at h ⊢
  rw [hb.block g hg]
  exact h
theorem CBk.call {w w' : World} {g : Nat} {T : TypeId} {cs : Array Value} (h : CBk w g T cs) (hb : Below w.heap.size w w') : CBk w' g T cs := h.below hb h.lt
theorem CBk.alloc {w : World} {g : Nat} {T : TypeId} {cs : Array Value} (h : CBk w g T cs) (o : Obj) : CBk (w.alloc o) g T cs := h.call ((Below.refl _ w).alloc (Nat.le_refl _) o)
theorem CBk.new (w : World) (T : TypeId) (cs : Array Value) : CBk (w.alloc (.cells cs T)) w.heap.size T cs := heap_alloc_new w _
theorem CBk.cell {w : World} {g : Nat} {T : TypeId} {cs : Array Value} (h : CBk w g T cs) (i : Nat) : w.cell? ⟨g, i, none⟩ = cs[i]? := by rw [Lib.cell_of_heap h]
theorem CBk.frozen {w : World} {g : Nat} {T : TypeId} {cs : Array Value} (h : CBk w g T cs) (i : Nat) : w.frozen? ⟨g, i, none⟩ = false := Lib.frozen_of_heap h i
theorem CBk.set {w : World} {g : Nat} {T : TypeId} {cs : Array Value} (h : CBk w g T cs) (i : Nat) (v : Value) : CBk (w.setCell ⟨g, i, none⟩ v) g T (cs.setIfInBounds i v) := by
  unfold CBk at h ⊢
  simp only [World.setCell, Array.getElem?_modify, h]
  simp
theorem CBk.other {w : World} {g g' j : Nat} {T : TypeId} {cs : Array Value} (h : CBk w g T cs) (hg : g' ≠ g) (v : Value) : CBk (w.setCell ⟨g', j, none⟩ v) g T cs := by
  unfold CBk at h ⊢; simp [World.setCell, Array.getElem?_modify, h, hg]
theorem CBk.six {w : World} {g : Nat} {T : TypeId} {a b c d e f : Value} (h : CBk w g T #[a, b, c, d, e, f]) : w.cell? ⟨g, 0, none⟩ = some a ∧ w.cell? ⟨g, 1, none⟩ = some b ∧ w.cell? ⟨g, 2, none⟩ = some c ∧ w.cell? ⟨g, 3, none⟩ = some d ∧ w.cell? ⟨g, 4, none⟩ = some e ∧ w.cell? ⟨g, 5, none⟩ = some f ∧ w.frozen? ⟨g, 0, none⟩ = false ∧ w.frozen? ⟨g, 1, none⟩ = false ∧ w.frozen? ⟨g, 2, none⟩ = false ∧ w.frozen? ⟨g, 3, none⟩ = false ∧ w.frozen? ⟨g, 4, none⟩ = false ∧ w.frozen? ⟨g, 5, none⟩ = false :=
  ⟨h.cell 0, h.cell 1, h.cell 2, h.cell 3, h.cell 4, h.cell 5, h.frozen 0, h.frozen 1, h.frozen 2, h.frozen 3, h.frozen 4, h.frozen 5⟩

theorem rowS_other {w : World} {g g' : Nat} {l : List ByteArray} (h : RowS w g l) (hg : g' ≠ g) (j : Nat) (v : Value) : RowS (w.setCell ⟨g', j, none⟩ v) g l := by
  unfold RowS at h ⊢; simp [World.setCell, Array.getElem?_modify, h, hg]
/-- What a copy of a block leaves. -/
def BackB (h : HeadV) (len : Nat) (zs : List ByteArray) (w : World) (e : Ending) (w' : World) : Prop := ∃ g, e = .returned (blockVal h (.slice (some ⟨g, 0, none⟩) len len)) ∧ RowS w' g (zs.take len) ∧ w.heap.size ≤ g ∧ Below w.heap.size w w'

end Go.Proofs.YtialhnocknogpaaGreatDoor

set_option linter.unusedVariables false
namespace Go.Proofs.YtialhnocknogpaaGreatDoor
open Go.RowKit Go.Deep

def peakVal (p : PeakV) : Value := .agg #[.string p.sum, .int .i64 p.work, .int .i64 p.count]
theorem CBk.cells5 {w : World} {g : Nat} {T : TypeId} {a b c d e : Value} (h : CBk w g T #[a, b, c, d, e]) : w.cell? ⟨g, 0, none⟩ = some a ∧ w.cell? ⟨g, 1, none⟩ = some b ∧ w.cell? ⟨g, 2, none⟩ = some c ∧ w.cell? ⟨g, 3, none⟩ = some d ∧ w.cell? ⟨g, 4, none⟩ = some e := ⟨h.cell 0, h.cell 1, h.cell 2, h.cell 3, h.cell 4⟩
theorem CBk.cells3 {w : World} {g : Nat} {T : TypeId} {a b c : Value} (h : CBk w g T #[a, b, c]) : w.cell? ⟨g, 0, none⟩ = some a ∧ w.cell? ⟨g, 1, none⟩ = some b ∧ w.cell? ⟨g, 2, none⟩ = some c := ⟨h.cell 0, h.cell 1, h.cell 2⟩
theorem CBk.drew2 {w : World} {g : Nat} {T : TypeId} {cs : Array Value} (h : CBk w g T cs) : CBk w.drew g T cs := h
theorem CBk.free3 {w : World} {g : Nat} {T : TypeId} {cs : Array Value} (h : CBk w g T cs) : w.frozen? ⟨g, 0, none⟩ = false ∧ w.frozen? ⟨g, 1, none⟩ = false ∧ w.frozen? ⟨g, 2, none⟩ = false := ⟨h.frozen 0, h.frozen 1, h.frozen 2⟩
/-- Behind a store of three cells. -/
theorem CBk.set3 {w : World} {g : Nat} {T : TypeId} {x y z a b c : Value} (h : CBk w g T #[x, y, z]) : CBk (((w.setCell ⟨g, 0, none⟩ a).setCell ⟨g, 1, none⟩ b).setCell ⟨g, 2, none⟩ c) g T #[a, b, c] := ((h.set 0 a).set 1 b).set 2 c

set_option maxHeartbeats 2000000 in
set_option maxRecDepth 100000 in
theorem implPeakHead (h : HeadV) (w : World) (hok : headOkB h = true) (hK : RowG w shaK) (hP : TabP w) :
    Calls Tryz.prog 21 #[headVal h] w fun e w' => e = .returned (peakVal (leafP h)) ∧ Below w.heap.size w w' := by
  have HK : Hid (RowG w shaK) := hK
  have HP : Hid (TabP w) := hP
  have e : headPut h = headT h := by rw [headPut, if_pos hok]
  have hpt := fun w' hp => implHeadPut h w' hp
  rw [e] at hpt
  clear e
  have hsz := leafXz hok
  have HX : Hid (_ = leafX h) := leafXs h
  have htl := headT_len hok
  unfold peakVal leafP
  dsimp only
  generalize headT h = ht at hpt hsz HX htl
  generalize leafX h = hx at HX ⊢
  unfold headVal
  have q1 : ¬ 9223372036854775807 < 5 + ht.length := by omega
  have A0 : Hid (CBk ((w.alloc (.cells #[.string h.prev, .string h.root, .int .i64 h.time, .int .i64 h.diff, .int .i64 h.nonce] 24)).alloc (.cells #[.string ⟨#[]⟩, .int .i64 0, .int .i64 0] 54)) w.heap.size 24 #[.string h.prev, .string h.root, .int .i64 h.time, .int .i64 h.diff, .int .i64 h.nonce]) := (CBk.new w _ _).alloc _
  have A1 : Hid (CBk ((w.alloc (.cells #[.string h.prev, .string h.root, .int .i64 h.time, .int .i64 h.diff, .int .i64 h.nonce] 24)).alloc (.cells #[.string ⟨#[]⟩, .int .i64 0, .int .i64 0] 54)) (w.heap.size + 1) 54 #[.string ⟨#[]⟩, .int .i64 0, .int .i64 0]) := by
    have := CBk.new (w.alloc (.cells #[.string h.prev, .string h.root, .int .i64 h.time, .int .i64 h.diff, .int .i64 h.nonce] 24)) 54 #[.string ⟨#[]⟩, .int .i64 0, .int .i64 0]
    rwa [show (w.alloc (.cells #[.string h.prev, .string h.root, .int .i64 h.time, .int .i64 h.diff, .int .i64 h.nonce] 24)).heap.size = w.heap.size + 1 from by simp] at this
  have L0 : Hid (Below w.heap.size w ((w.alloc (.cells #[.string h.prev, .string h.root, .int .i64 h.time, .int .i64 h.diff, .int .i64 h.nonce] 24)).alloc (.cells #[.string ⟨#[]⟩, .int .i64 0, .int .i64 0] 54))) := ((Below.refl _ w).alloc (Nat.le_refl _) _).alloc (by simp) _
  clear hok hK hP
  go_enter Tryz.func21, Tryz.ntmps21
  go_wp2_with fail
  generalize (w.alloc (.cells #[.string h.prev, .string h.root, .int .i64 h.time, .int .i64 h.diff, .int .i64 h.nonce] 24)).alloc (.cells #[.string ⟨#[]⟩, .int .i64 0, .int .i64 0] 54) = W0 at A0 A1 L0 ⊢
  obtain ⟨g0, hg0⟩ : ∃ g0, g0 = w.heap.size := ⟨_, rfl⟩
  have HG : Hid (g0 = w.heap.size) := hg0
  rw [← hg0] at A0 A1 ⊢
  clear hg0
  have hne : ¬ g0 = g0 + 1 := by omega
  have hne2 : ¬ g0 + 1 = g0 := by omega
  obtain ⟨c0, c1, c2, c3, c4⟩ := A0.out.drew2.cells5
  obtain ⟨d0, d1, d2⟩ := A1.out.drew2.cells3
  obtain ⟨f0, f1, f2⟩ := A1.out.drew2.free3
  go_region_held3 (fun w' => w'.cell? ⟨g0, 0, none⟩ = some (.string h.prev) ∧ w'.cell? ⟨g0, 1, none⟩ = some (.string h.root) ∧ w'.cell? ⟨g0, 2, none⟩ = some (.int .i64 h.time) ∧ w'.cell? ⟨g0, 3, none⟩ = some (.int .i64 h.diff) ∧ w'.cell? ⟨g0, 4, none⟩ = some (.int .i64 h.nonce))
    (first | (with_reducible first | exact A0.out.drew2.cells5 | exact B0.out.cells5 | exact C0.out.cells5) | go_keep)
    (first
      | (go_at_call 36; refine (hpt _ (TabP.below HP.out L0.out.drew (Nat.le_refl _))).mono ?_; rintro e w1 ⟨rfl, b1⟩; have B0 : Hid (CBk w1 g0 24 #[.string h.prev, .string h.root, .int .i64 h.time, .int .i64 h.diff, .int .i64 h.nonce]) := A0.out.drew2.call b1; have B1 : Hid (CBk w1 (g0 + 1) 54 #[.string ⟨#[]⟩, .int .i64 0, .int .i64 0]) := A1.out.drew2.call b1; have L1 : Hid (Below w.heap.size w w1) := L0.out.drew.trans (b1.mono L0.out.size))
      | (go_at_call 35; refine (implSum _ _ hsz (HK.out.below L1.out HK.out.lt)).mono ?_; rintro e w2 ⟨rfl, b2⟩; rw [HX.out]; have C0 : Hid (CBk w2 g0 24 #[.string h.prev, .string h.root, .int .i64 h.time, .int .i64 h.diff, .int .i64 h.nonce]) := B0.out.call b2; have C1 : Hid (CBk w2 (g0 + 1) 54 #[.string ⟨#[]⟩, .int .i64 0, .int .i64 0]) := B1.out.call b2; have L2 : Hid (Below w.heap.size w w2) := L1.out.trans (b2.mono L1.out.size); obtain ⟨e0, e1, e2⟩ := C1.out.cells3; obtain ⟨k0, k1, k2⟩ := C1.out.free3))
  have T3 : Hid (CBk (((w2.setCell ⟨g0 + 1, 0, none⟩ (.string ⟨(sumB hx).toArray⟩)).setCell ⟨g0 + 1, 1, none⟩ (.int .i64 h.diff)).setCell ⟨g0 + 1, 2, none⟩ (.int .i64 1)) (g0 + 1) 54 #[.string ⟨(sumB hx).toArray⟩, .int .i64 h.diff, .int .i64 1]) := C1.out.set3
  have LF : Hid (Below w.heap.size w (((w2.setCell ⟨g0 + 1, 0, none⟩ (.string ⟨(sumB hx).toArray⟩)).setCell ⟨g0 + 1, 1, none⟩ (.int .i64 h.diff)).setCell ⟨g0 + 1, 2, none⟩ (.int .i64 1))) := by
    have e4 := HG.out
    exact ((L2.out.setCell (p := ⟨g0 + 1, 0, none⟩) (by show w.heap.size ≤ g0 + 1; omega) _).setCell (p := ⟨g0 + 1, 1, none⟩) (by show w.heap.size ≤ g0 + 1; omega) _).setCell (p := ⟨g0 + 1, 2, none⟩) (by show w.heap.size ≤ g0 + 1; omega) _
  go_wp2_with fail
  exact bodyPost_ret (results_cell_row (p := 2) rfl _ _ (g0 + 1) 54 #[.string ⟨(sumB hx).toArray⟩, .int .i64 h.diff, .int .i64 1] (0, 0) _ rfl T3.out Tryz.underlying54 rfl (by kernel_rfl)) rfl ⟨rfl, LF.out⟩

set_option maxHeartbeats 2000000 in
set_option maxRecDepth 100000 in
theorem specL5Leaf (h : HeadV) (w : World) (hok : headOkB h = true) :
    Calls Tryz.prog 42 #[headVal h] w fun e w' => e = .returned (peakVal (leafP h)) ∧ Below w.heap.size w w' := by
  have hpt := fun w' => specL3Put h w' hok
  have hsz := leafXz hok
  have HX : Hid (_ = leafX h) := leafXs h
  have htl := headT_len hok
  unfold peakVal leafP
  dsimp only
  generalize headT h = ht at hpt hsz HX htl
  generalize leafX h = hx at HX ⊢
  unfold headVal
  have q1 : ¬ 9223372036854775807 < 5 + ht.length := by omega
  have A0 : Hid (CBk ((w.alloc (.cells #[.string h.prev, .string h.root, .int .i64 h.time, .int .i64 h.diff, .int .i64 h.nonce] 24)).alloc (.cells #[.string ⟨#[]⟩, .int .i64 0, .int .i64 0] 54)) w.heap.size 24 #[.string h.prev, .string h.root, .int .i64 h.time, .int .i64 h.diff, .int .i64 h.nonce]) := (CBk.new w _ _).alloc _
  have A1 : Hid (CBk ((w.alloc (.cells #[.string h.prev, .string h.root, .int .i64 h.time, .int .i64 h.diff, .int .i64 h.nonce] 24)).alloc (.cells #[.string ⟨#[]⟩, .int .i64 0, .int .i64 0] 54)) (w.heap.size + 1) 54 #[.string ⟨#[]⟩, .int .i64 0, .int .i64 0]) := by
    have := CBk.new (w.alloc (.cells #[.string h.prev, .string h.root, .int .i64 h.time, .int .i64 h.diff, .int .i64 h.nonce] 24)) 54 #[.string ⟨#[]⟩, .int .i64 0, .int .i64 0]
    rwa [show (w.alloc (.cells #[.string h.prev, .string h.root, .int .i64 h.time, .int .i64 h.diff, .int .i64 h.nonce] 24)).heap.size = w.heap.size + 1 from by simp] at this
  have L0 : Hid (Below w.heap.size w ((w.alloc (.cells #[.string h.prev, .string h.root, .int .i64 h.time, .int .i64 h.diff, .int .i64 h.nonce] 24)).alloc (.cells #[.string ⟨#[]⟩, .int .i64 0, .int .i64 0] 54))) := ((Below.refl _ w).alloc (Nat.le_refl _) _).alloc (by simp) _
  clear hok
  go_enter Tryz.func42, Tryz.ntmps42
  go_wp2_with fail
  generalize (w.alloc (.cells #[.string h.prev, .string h.root, .int .i64 h.time, .int .i64 h.diff, .int .i64 h.nonce] 24)).alloc (.cells #[.string ⟨#[]⟩, .int .i64 0, .int .i64 0] 54) = W0 at A0 A1 L0 ⊢
  obtain ⟨g0, hg0⟩ : ∃ g0, g0 = w.heap.size := ⟨_, rfl⟩
  have HG : Hid (g0 = w.heap.size) := hg0
  rw [← hg0] at A0 A1 ⊢
  clear hg0
  have hne : ¬ g0 = g0 + 1 := by omega
  have hne2 : ¬ g0 + 1 = g0 := by omega
  obtain ⟨c0, c1, c2, c3, c4⟩ := A0.out.drew2.cells5
  obtain ⟨d0, d1, d2⟩ := A1.out.drew2.cells3
  obtain ⟨f0, f1, f2⟩ := A1.out.drew2.free3
  go_region_held3 (fun w' => w'.cell? ⟨g0, 0, none⟩ = some (.string h.prev) ∧ w'.cell? ⟨g0, 1, none⟩ = some (.string h.root) ∧ w'.cell? ⟨g0, 2, none⟩ = some (.int .i64 h.time) ∧ w'.cell? ⟨g0, 3, none⟩ = some (.int .i64 h.diff) ∧ w'.cell? ⟨g0, 4, none⟩ = some (.int .i64 h.nonce))
    (first | (with_reducible first | exact A0.out.drew2.cells5 | exact B0.out.cells5 | exact C0.out.cells5) | go_keep)
    (first
      | (go_at_call 69; refine (hpt _).mono ?_; rintro e w1 ⟨rfl, b1⟩; have B0 : Hid (CBk w1 g0 24 #[.string h.prev, .string h.root, .int .i64 h.time, .int .i64 h.diff, .int .i64 h.nonce]) := A0.out.drew2.call b1; have B1 : Hid (CBk w1 (g0 + 1) 54 #[.string ⟨#[]⟩, .int .i64 0, .int .i64 0]) := A1.out.drew2.call b1; have L1 : Hid (Below w.heap.size w w1) := L0.out.drew.trans (b1.mono L0.out.size))
      | (go_at_call 40; refine (specSum _ _ hsz).mono ?_; rintro e w2 ⟨rfl, b2⟩; rw [HX.out]; have C0 : Hid (CBk w2 g0 24 #[.string h.prev, .string h.root, .int .i64 h.time, .int .i64 h.diff, .int .i64 h.nonce]) := B0.out.call b2; have C1 : Hid (CBk w2 (g0 + 1) 54 #[.string ⟨#[]⟩, .int .i64 0, .int .i64 0]) := B1.out.call b2; have L2 : Hid (Below w.heap.size w w2) := L1.out.trans (b2.mono L1.out.size); obtain ⟨e0, e1, e2⟩ := C1.out.cells3; obtain ⟨k0, k1, k2⟩ := C1.out.free3))
  have T3 : Hid (CBk (((w2.setCell ⟨g0 + 1, 0, none⟩ (.string ⟨(sumB hx).toArray⟩)).setCell ⟨g0 + 1, 1, none⟩ (.int .i64 h.diff)).setCell ⟨g0 + 1, 2, none⟩ (.int .i64 1)) (g0 + 1) 54 #[.string ⟨(sumB hx).toArray⟩, .int .i64 h.diff, .int .i64 1]) := C1.out.set3
  have LF : Hid (Below w.heap.size w (((w2.setCell ⟨g0 + 1, 0, none⟩ (.string ⟨(sumB hx).toArray⟩)).setCell ⟨g0 + 1, 1, none⟩ (.int .i64 h.diff)).setCell ⟨g0 + 1, 2, none⟩ (.int .i64 1))) := by
    have e4 := HG.out
    exact ((L2.out.setCell (p := ⟨g0 + 1, 0, none⟩) (by show w.heap.size ≤ g0 + 1; omega) _).setCell (p := ⟨g0 + 1, 1, none⟩) (by show w.heap.size ≤ g0 + 1; omega) _).setCell (p := ⟨g0 + 1, 2, none⟩) (by show w.heap.size ≤ g0 + 1; omega) _
  go_wp2_with fail
  exact bodyPost_ret (results_cell_row (p := 2) rfl _ _ (g0 + 1) 54 #[.string ⟨(sumB hx).toArray⟩, .int .i64 h.diff, .int .i64 1] (0, 0) _ rfl T3.out Tryz.underlying54 rfl (by kernel_rfl)) rfl ⟨rfl, LF.out⟩

set_option maxHeartbeats 4000000 in
set_option maxRecDepth 100000 in
theorem implPeakBoth (a b : PeakV) (w : World) (ha : peakOkB a = true) (hb : peakOkB b = true) (hK : RowG w shaK) (hP : TabP w) :
    Calls Tryz.prog 34 #[peakVal a, peakVal b] w fun e w' => e = .returned (peakVal (bothP a b)) ∧ Below w.heap.size w w' := by
  have HK : Hid (RowG w shaK) := hK
  have HP : Hid (TabP w) := hP
  have hpa := fun w' hp => implPeakPut a w' ha hp
  have hpb := fun w' hp => implPeakPut b w' hb hp
  have hsa := peakB_size ha
  have hsb := peakB_size hb
  have hia := peakOk_in ha
  have hib := peakOk_in hb
  have hsz := bothX_size ha hb
  have HXE : Hid (((⟨#[112, 101, 97, 107, 32]⟩ : ByteArray) ++ peakB a) ++ (⟨#[32]⟩ : ByteArray) ++ peakB b = bothX a b) := rfl
  have hw1 : IntKind.i64.wrap (a.work + b.work) = a.work + b.work := by rw [IntKind.wrap_i64]; omega
  have hw2 : IntKind.i64.wrap (a.count + b.count) = a.count + b.count := by rw [IntKind.wrap_i64]; omega
  unfold peakVal bothP
  dsimp only
  generalize peakB a = pa at hpa hsa HXE
  generalize peakB b = pb at hpb hsb HXE
  generalize bothX a b = X at hsz HXE ⊢
  have q1 : ¬ 9223372036854775807 < 5 + pa.size := by omega
  have q2 : ¬ 9223372036854775807 < 5 + pa.size + 1 := by omega
  have q3 : ¬ 9223372036854775807 < 5 + pa.size + 1 + pb.size := by omega
  have A0 : Hid (CBk (((w.alloc (.cells #[.string a.sum, .int .i64 a.work, .int .i64 a.count] 54)).alloc (.cells #[.string b.sum, .int .i64 b.work, .int .i64 b.count] 54)).alloc (.cells #[.string ⟨#[]⟩, .int .i64 0, .int .i64 0] 54)) w.heap.size 54 #[.string a.sum, .int .i64 a.work, .int .i64 a.count]) := ((CBk.new w _ _).alloc _).alloc _
  have A1 : Hid (CBk (((w.alloc (.cells #[.string a.sum, .int .i64 a.work, .int .i64 a.count] 54)).alloc (.cells #[.string b.sum, .int .i64 b.work, .int .i64 b.count] 54)).alloc (.cells #[.string ⟨#[]⟩, .int .i64 0, .int .i64 0] 54)) (w.heap.size + 1) 54 #[.string b.sum, .int .i64 b.work, .int .i64 b.count]) := by
    have := (CBk.new (w.alloc (.cells #[.string a.sum, .int .i64 a.work, .int .i64 a.count] 54)) 54 #[.string b.sum, .int .i64 b.work, .int .i64 b.count]).alloc (.cells #[.string ⟨#[]⟩, .int .i64 0, .int .i64 0] 54)
    rwa [show (w.alloc (.cells #[.string a.sum, .int .i64 a.work, .int .i64 a.count] 54)).heap.size = w.heap.size + 1 from by simp] at this
  have A2 : Hid (CBk (((w.alloc (.cells #[.string a.sum, .int .i64 a.work, .int .i64 a.count] 54)).alloc (.cells #[.string b.sum, .int .i64 b.work, .int .i64 b.count] 54)).alloc (.cells #[.string ⟨#[]⟩, .int .i64 0, .int .i64 0] 54)) (w.heap.size + 1 + 1) 54 #[.string ⟨#[]⟩, .int .i64 0, .int .i64 0]) := by
    have := CBk.new ((w.alloc (.cells #[.string a.sum, .int .i64 a.work, .int .i64 a.count] 54)).alloc (.cells #[.string b.sum, .int .i64 b.work, .int .i64 b.count] 54)) 54 #[.string ⟨#[]⟩, .int .i64 0, .int .i64 0]
    rwa [show ((w.alloc (.cells #[.string a.sum, .int .i64 a.work, .int .i64 a.count] 54)).alloc (.cells #[.string b.sum, .int .i64 b.work, .int .i64 b.count] 54)).heap.size = w.heap.size + 1 + 1 from by simp] at this
  have L0 : Hid (Below w.heap.size w (((w.alloc (.cells #[.string a.sum, .int .i64 a.work, .int .i64 a.count] 54)).alloc (.cells #[.string b.sum, .int .i64 b.work, .int .i64 b.count] 54)).alloc (.cells #[.string ⟨#[]⟩, .int .i64 0, .int .i64 0] 54))) := (((Below.refl _ w).alloc (Nat.le_refl _) _).alloc (by simp) _).alloc (by simp; omega) _
  clear ha hb hK hP hia hib
  go_enter Tryz.func34, Tryz.ntmps34
  go_wp2_with fail
  generalize ((w.alloc (.cells #[.string a.sum, .int .i64 a.work, .int .i64 a.count] 54)).alloc (.cells #[.string b.sum, .int .i64 b.work, .int .i64 b.count] 54)).alloc (.cells #[.string ⟨#[]⟩, .int .i64 0, .int .i64 0] 54) = W0 at A0 A1 A2 L0 ⊢
  obtain ⟨g0, hg0⟩ : ∃ g0, g0 = w.heap.size := ⟨_, rfl⟩
  have HG : Hid (g0 = w.heap.size) := hg0
  rw [← hg0] at A0 A1 A2 ⊢
  clear hg0
  have hne : ¬ g0 = g0 + 1 + 1 := by omega
  have hne2 : ¬ g0 + 1 + 1 = g0 := by omega
  have hne3 : ¬ g0 + 1 = g0 + 1 + 1 := by omega
  have hne4 : ¬ g0 + 1 + 1 = g0 + 1 := by omega
  obtain ⟨c0, c1, c2⟩ := A0.out.drew2.cells3
  obtain ⟨m0, m1, m2⟩ := A1.out.drew2.cells3
  go_region_held3 (fun w' => (w'.cell? ⟨g0, 0, none⟩ = some (.string a.sum) ∧ w'.cell? ⟨g0, 1, none⟩ = some (.int .i64 a.work) ∧ w'.cell? ⟨g0, 2, none⟩ = some (.int .i64 a.count)) ∧ (w'.cell? ⟨g0 + 1, 0, none⟩ = some (.string b.sum) ∧ w'.cell? ⟨g0 + 1, 1, none⟩ = some (.int .i64 b.work) ∧ w'.cell? ⟨g0 + 1, 2, none⟩ = some (.int .i64 b.count)))
    (first | (with_reducible first | exact ⟨A0.out.drew2.cells3, A1.out.drew2.cells3⟩ | exact ⟨B0.out.cells3, B1.out.cells3⟩ | exact ⟨C0.out.cells3, C1.out.cells3⟩ | exact ⟨D0.out.cells3, D1.out.cells3⟩) | go_keep)
    (first
      | (go_at_call 51; have q9 := B0.out.cells3; clear q9; refine (hpb _ (TabP.below HP.out L1.out (Nat.le_refl _))).mono ?_; rintro e w2 ⟨rfl, b2⟩; have C0 : Hid (CBk w2 g0 54 #[.string a.sum, .int .i64 a.work, .int .i64 a.count]) := B0.out.call b2; have C1 : Hid (CBk w2 (g0 + 1) 54 #[.string b.sum, .int .i64 b.work, .int .i64 b.count]) := B1.out.call b2; have C2 : Hid (CBk w2 (g0 + 1 + 1) 54 #[.string ⟨#[]⟩, .int .i64 0, .int .i64 0]) := B2.out.call b2; have L2 : Hid (Below w.heap.size w w2) := L1.out.trans (b2.mono L1.out.size))
      | (go_at_call 51; refine (hpa _ (TabP.below HP.out L0.out.drew (Nat.le_refl _))).mono ?_; rintro e w1 ⟨rfl, b1⟩; have B0 : Hid (CBk w1 g0 54 #[.string a.sum, .int .i64 a.work, .int .i64 a.count]) := A0.out.drew2.call b1; have B1 : Hid (CBk w1 (g0 + 1) 54 #[.string b.sum, .int .i64 b.work, .int .i64 b.count]) := A1.out.drew2.call b1; have B2 : Hid (CBk w1 (g0 + 1 + 1) 54 #[.string ⟨#[]⟩, .int .i64 0, .int .i64 0]) := A2.out.drew2.call b1; have L1 : Hid (Below w.heap.size w w1) := L0.out.drew.trans (b1.mono L0.out.size))
      | (go_at_call 35; rw [HXE.out]; refine (implSum _ _ hsz (HK.out.below L2.out HK.out.lt)).mono ?_; rintro e w3 ⟨rfl, b3⟩; have D0 : Hid (CBk w3 g0 54 #[.string a.sum, .int .i64 a.work, .int .i64 a.count]) := C0.out.call b3; have D1 : Hid (CBk w3 (g0 + 1) 54 #[.string b.sum, .int .i64 b.work, .int .i64 b.count]) := C1.out.call b3; have D2 : Hid (CBk w3 (g0 + 1 + 1) 54 #[.string ⟨#[]⟩, .int .i64 0, .int .i64 0]) := C2.out.call b3; have L3 : Hid (Below w.heap.size w w3) := L2.out.trans (b3.mono L2.out.size)))
  obtain ⟨p0, p1, p2⟩ := D0.out.cells3
  obtain ⟨r0, r1, r2⟩ := D1.out.cells3
  obtain ⟨e0, e1, e2⟩ := D2.out.cells3
  obtain ⟨k0, k1, k2⟩ := D2.out.free3
  clear c0 c1 c2 m0 m1 m2
  have T3 : Hid (CBk (((w3.setCell ⟨g0 + 1 + 1, 0, none⟩ (.string ⟨(sumB X.data.toList).toArray⟩)).setCell ⟨g0 + 1 + 1, 1, none⟩ (.int .i64 (a.work + b.work))).setCell ⟨g0 + 1 + 1, 2, none⟩ (.int .i64 (a.count + b.count))) (g0 + 1 + 1) 54 #[.string ⟨(sumB X.data.toList).toArray⟩, .int .i64 (a.work + b.work), .int .i64 (a.count + b.count)]) := D2.out.set3
  have LF : Hid (Below w.heap.size w (((w3.setCell ⟨g0 + 1 + 1, 0, none⟩ (.string ⟨(sumB X.data.toList).toArray⟩)).setCell ⟨g0 + 1 + 1, 1, none⟩ (.int .i64 (a.work + b.work))).setCell ⟨g0 + 1 + 1, 2, none⟩ (.int .i64 (a.count + b.count)))) := by
    have e4 := HG.out
    exact ((L3.out.setCell (p := ⟨g0 + 1 + 1, 0, none⟩) (by show w.heap.size ≤ g0 + 1 + 1; omega) _).setCell (p := ⟨g0 + 1 + 1, 1, none⟩) (by show w.heap.size ≤ g0 + 1 + 1; omega) _).setCell (p := ⟨g0 + 1 + 1, 2, none⟩) (by show w.heap.size ≤ g0 + 1 + 1; omega) _
  go_wp2_with fail
  exact bodyPost_ret (results_cell_row (p := 4) rfl _ _ (g0 + 1 + 1) 54 #[.string ⟨(sumB X.data.toList).toArray⟩, .int .i64 (a.work + b.work), .int .i64 (a.count + b.count)] (0, 0) _ rfl T3.out Tryz.underlying54 rfl (by kernel_rfl)) rfl ⟨rfl, LF.out⟩

set_option maxHeartbeats 4000000 in
set_option maxRecDepth 100000 in
theorem specL5Both (a b : PeakV) (w : World) (ha : peakOkB a = true) (hb : peakOkB b = true) :
    Calls Tryz.prog 68 #[peakVal a, peakVal b] w fun e w' => e = .returned (peakVal (bothP a b)) ∧ Below w.heap.size w w' := by
  have hpa := fun w' => specPeakText a w' ha
  have hpb := fun w' => specPeakText b w' hb
  have hsa := peakB_size ha
  have hsb := peakB_size hb
  have hia := peakOk_in ha
  have hib := peakOk_in hb
  have hsz := bothX_size ha hb
  have HXE : Hid (((⟨#[112, 101, 97, 107, 32]⟩ : ByteArray) ++ peakB a) ++ (⟨#[32]⟩ : ByteArray) ++ peakB b = bothX a b) := rfl
  have hw1 : IntKind.i64.wrap (a.work + b.work) = a.work + b.work := by rw [IntKind.wrap_i64]; omega
  have hw2 : IntKind.i64.wrap (a.count + b.count) = a.count + b.count := by rw [IntKind.wrap_i64]; omega
  unfold peakVal bothP
  dsimp only
  generalize peakB a = pa at hpa hsa HXE
  generalize peakB b = pb at hpb hsb HXE
  generalize bothX a b = X at hsz HXE ⊢
  have q1 : ¬ 9223372036854775807 < 5 + pa.size := by omega
  have q2 : ¬ 9223372036854775807 < 5 + pa.size + 1 := by omega
  have q3 : ¬ 9223372036854775807 < 5 + pa.size + 1 + pb.size := by omega
  have A0 : Hid (CBk (((w.alloc (.cells #[.string a.sum, .int .i64 a.work, .int .i64 a.count] 54)).alloc (.cells #[.string b.sum, .int .i64 b.work, .int .i64 b.count] 54)).alloc (.cells #[.string ⟨#[]⟩, .int .i64 0, .int .i64 0] 54)) w.heap.size 54 #[.string a.sum, .int .i64 a.work, .int .i64 a.count]) := ((CBk.new w _ _).alloc _).alloc _
  have A1 : Hid (CBk (((w.alloc (.cells #[.string a.sum, .int .i64 a.work, .int .i64 a.count] 54)).alloc (.cells #[.string b.sum, .int .i64 b.work, .int .i64 b.count] 54)).alloc (.cells #[.string ⟨#[]⟩, .int .i64 0, .int .i64 0] 54)) (w.heap.size + 1) 54 #[.string b.sum, .int .i64 b.work, .int .i64 b.count]) := by
    have := (CBk.new (w.alloc (.cells #[.string a.sum, .int .i64 a.work, .int .i64 a.count] 54)) 54 #[.string b.sum, .int .i64 b.work, .int .i64 b.count]).alloc (.cells #[.string ⟨#[]⟩, .int .i64 0, .int .i64 0] 54)
    rwa [show (w.alloc (.cells #[.string a.sum, .int .i64 a.work, .int .i64 a.count] 54)).heap.size = w.heap.size + 1 from by simp] at this
  have A2 : Hid (CBk (((w.alloc (.cells #[.string a.sum, .int .i64 a.work, .int .i64 a.count] 54)).alloc (.cells #[.string b.sum, .int .i64 b.work, .int .i64 b.count] 54)).alloc (.cells #[.string ⟨#[]⟩, .int .i64 0, .int .i64 0] 54)) (w.heap.size + 1 + 1) 54 #[.string ⟨#[]⟩, .int .i64 0, .int .i64 0]) := by
    have := CBk.new ((w.alloc (.cells #[.string a.sum, .int .i64 a.work, .int .i64 a.count] 54)).alloc (.cells #[.string b.sum, .int .i64 b.work, .int .i64 b.count] 54)) 54 #[.string ⟨#[]⟩, .int .i64 0, .int .i64 0]
    rwa [show ((w.alloc (.cells #[.string a.sum, .int .i64 a.work, .int .i64 a.count] 54)).alloc (.cells #[.string b.sum, .int .i64 b.work, .int .i64 b.count] 54)).heap.size = w.heap.size + 1 + 1 from by simp] at this
  have L0 : Hid (Below w.heap.size w (((w.alloc (.cells #[.string a.sum, .int .i64 a.work, .int .i64 a.count] 54)).alloc (.cells #[.string b.sum, .int .i64 b.work, .int .i64 b.count] 54)).alloc (.cells #[.string ⟨#[]⟩, .int .i64 0, .int .i64 0] 54))) := (((Below.refl _ w).alloc (Nat.le_refl _) _).alloc (by simp) _).alloc (by simp; omega) _
  clear ha hb hia hib
  go_enter Tryz.func68, Tryz.ntmps68
  go_wp2_with fail
  generalize ((w.alloc (.cells #[.string a.sum, .int .i64 a.work, .int .i64 a.count] 54)).alloc (.cells #[.string b.sum, .int .i64 b.work, .int .i64 b.count] 54)).alloc (.cells #[.string ⟨#[]⟩, .int .i64 0, .int .i64 0] 54) = W0 at A0 A1 A2 L0 ⊢
  obtain ⟨g0, hg0⟩ : ∃ g0, g0 = w.heap.size := ⟨_, rfl⟩
  have HG : Hid (g0 = w.heap.size) := hg0
  rw [← hg0] at A0 A1 A2 ⊢
  clear hg0
  have hne : ¬ g0 = g0 + 1 + 1 := by omega
  have hne2 : ¬ g0 + 1 + 1 = g0 := by omega
  have hne3 : ¬ g0 + 1 = g0 + 1 + 1 := by omega
  have hne4 : ¬ g0 + 1 + 1 = g0 + 1 := by omega
  obtain ⟨c0, c1, c2⟩ := A0.out.drew2.cells3
  obtain ⟨m0, m1, m2⟩ := A1.out.drew2.cells3
  go_region_held3 (fun w' => (w'.cell? ⟨g0, 0, none⟩ = some (.string a.sum) ∧ w'.cell? ⟨g0, 1, none⟩ = some (.int .i64 a.work) ∧ w'.cell? ⟨g0, 2, none⟩ = some (.int .i64 a.count)) ∧ (w'.cell? ⟨g0 + 1, 0, none⟩ = some (.string b.sum) ∧ w'.cell? ⟨g0 + 1, 1, none⟩ = some (.int .i64 b.work) ∧ w'.cell? ⟨g0 + 1, 2, none⟩ = some (.int .i64 b.count)))
    (first | (with_reducible first | exact ⟨A0.out.drew2.cells3, A1.out.drew2.cells3⟩ | exact ⟨B0.out.cells3, B1.out.cells3⟩ | exact ⟨C0.out.cells3, C1.out.cells3⟩ | exact ⟨D0.out.cells3, D1.out.cells3⟩) | go_keep)
    (first
      | (go_at_call 39; have q9 := B0.out.cells3; clear q9; refine (hpb _).mono ?_; rintro e w2 ⟨rfl, b2⟩; have C0 : Hid (CBk w2 g0 54 #[.string a.sum, .int .i64 a.work, .int .i64 a.count]) := B0.out.call b2; have C1 : Hid (CBk w2 (g0 + 1) 54 #[.string b.sum, .int .i64 b.work, .int .i64 b.count]) := B1.out.call b2; have C2 : Hid (CBk w2 (g0 + 1 + 1) 54 #[.string ⟨#[]⟩, .int .i64 0, .int .i64 0]) := B2.out.call b2; have L2 : Hid (Below w.heap.size w w2) := L1.out.trans (b2.mono L1.out.size))
      | (go_at_call 39; refine (hpa _).mono ?_; rintro e w1 ⟨rfl, b1⟩; have B0 : Hid (CBk w1 g0 54 #[.string a.sum, .int .i64 a.work, .int .i64 a.count]) := A0.out.drew2.call b1; have B1 : Hid (CBk w1 (g0 + 1) 54 #[.string b.sum, .int .i64 b.work, .int .i64 b.count]) := A1.out.drew2.call b1; have B2 : Hid (CBk w1 (g0 + 1 + 1) 54 #[.string ⟨#[]⟩, .int .i64 0, .int .i64 0]) := A2.out.drew2.call b1; have L1 : Hid (Below w.heap.size w w1) := L0.out.drew.trans (b1.mono L0.out.size))
      | (go_at_call 40; rw [HXE.out]; refine (specSum _ _ hsz).mono ?_; rintro e w3 ⟨rfl, b3⟩; have D0 : Hid (CBk w3 g0 54 #[.string a.sum, .int .i64 a.work, .int .i64 a.count]) := C0.out.call b3; have D1 : Hid (CBk w3 (g0 + 1) 54 #[.string b.sum, .int .i64 b.work, .int .i64 b.count]) := C1.out.call b3; have D2 : Hid (CBk w3 (g0 + 1 + 1) 54 #[.string ⟨#[]⟩, .int .i64 0, .int .i64 0]) := C2.out.call b3; have L3 : Hid (Below w.heap.size w w3) := L2.out.trans (b3.mono L2.out.size); obtain ⟨e0, e1, e2⟩ := D2.out.cells3; obtain ⟨k0, k1, k2⟩ := D2.out.free3))
  have T3 : Hid (CBk (((w3.setCell ⟨g0 + 1 + 1, 0, none⟩ (.string ⟨(sumB X.data.toList).toArray⟩)).setCell ⟨g0 + 1 + 1, 1, none⟩ (.int .i64 (a.work + b.work))).setCell ⟨g0 + 1 + 1, 2, none⟩ (.int .i64 (a.count + b.count))) (g0 + 1 + 1) 54 #[.string ⟨(sumB X.data.toList).toArray⟩, .int .i64 (a.work + b.work), .int .i64 (a.count + b.count)]) := D2.out.set3
  have LF : Hid (Below w.heap.size w (((w3.setCell ⟨g0 + 1 + 1, 0, none⟩ (.string ⟨(sumB X.data.toList).toArray⟩)).setCell ⟨g0 + 1 + 1, 1, none⟩ (.int .i64 (a.work + b.work))).setCell ⟨g0 + 1 + 1, 2, none⟩ (.int .i64 (a.count + b.count)))) := by
    have e4 := HG.out
    exact ((L3.out.setCell (p := ⟨g0 + 1 + 1, 0, none⟩) (by show w.heap.size ≤ g0 + 1 + 1; omega) _).setCell (p := ⟨g0 + 1 + 1, 1, none⟩) (by show w.heap.size ≤ g0 + 1 + 1; omega) _).setCell (p := ⟨g0 + 1 + 1, 2, none⟩) (by show w.heap.size ≤ g0 + 1 + 1; omega) _
  go_wp2_with fail
  exact bodyPost_ret (results_cell_row (p := 4) rfl _ _ (g0 + 1 + 1) 54 #[.string ⟨(sumB X.data.toList).toArray⟩, .int .i64 (a.work + b.work), .int .i64 (a.count + b.count)] (0, 0) _ rfl T3.out Tryz.underlying54 rfl (by kernel_rfl)) rfl ⟨rfl, LF.out⟩

end Go.Proofs.YtialhnocknogpaaGreatDoor

set_option linter.unusedVariables false
namespace Go.Proofs.YtialhnocknogpaaGreatDoor
open Go.RowKit

def sameHB (p q : HeadV) : Bool := p.prev.toList == q.prev.toList && (p.root.toList == q.root.toList && (p.time == q.time && (p.diff == q.diff && p.nonce == q.nonce)))
theorem fieldsHead : (Tryz.prog.fieldsOf 24).toList.map (fun f => (f.name != "_", f.type, f.offset)) = [(true, 9, 0), (true, 9, 1), (true, 3, 2), (true, 3, 3), (true, 3, 4)] := by kernel_rfl
theorem eqHeadT : Tryz.prog.underlying 24 = some (.struct (Tryz.prog.fieldsOf 24)) := by kernel_rfl
theorem eqHeadS : Tryz.prog.stoodInHeld 24 = false := by kernel_rfl
theorem eqHeadG : Tryz.prog.eqGuardType Tryz.prog.depth 24 = false := by kernel_rfl
theorem eqStep {P : Program} {d : Nat} {xs ys : Array Value} {f : Field} {fs : List Field} {w : World} {t o : Nat} {a b : Value} {r r2 : Bool} (hn : (f.name != "_") = true) (ht : f.type = t) (ho : f.offset = o) (ha : (part t xs o).run P w = .ok a w) (hb : (part t ys o).run P w = .ok b w)
    (hr : (Op.equalIn d t a b).run P w = .ok r w) (h2 : (Op.eqFields d xs ys fs).run P w = .ok r2 w) : (Op.eqFields d xs ys (f :: fs)).run P w = .ok (r && r2) w := by
  have hn' : f.name ≠ "_" := by simpa using hn
  subst ht ho
  unfold Op.eqFields
  rw [if_pos hn']
  simp only [Sem.run_bind, ha, hb, hr, Result.andThen_ok, Sem.run_ite, Sem.run_pure, h2]
  cases r <;> simp
theorem runSameHead (p q : HeadV) (w : World) : (Op.equalIn 10000 24 (.agg #[.string p.prev, .string p.root, .int .i64 p.time, .int .i64 p.diff, .int .i64 p.nonce]) (.agg #[.string q.prev, .string q.root, .int .i64 q.time, .int .i64 q.diff, .int .i64 q.nonce])).run Tryz.prog w = .ok (sameHB p q) w := by
  rw [run_equalIn_struct w 9999 _ _ _ eqHeadT eqHeadS]
  have hf := fieldsHead
  generalize (Tryz.prog.fieldsOf 24).toList = fs at hf
  rcases fs with _ | ⟨f0, _ | ⟨f1, _ | ⟨f2, _ | ⟨f3, _ | ⟨f4, _ | ⟨f5, fs⟩⟩⟩⟩⟩⟩
  all_goals try (simp at hf; done)
  simp only [List.map_cons, List.map_nil, List.cons.injEq, Prod.mk.injEq, and_true] at hf
  obtain ⟨⟨n0, t0, o0⟩, ⟨n1, t1, o1⟩, ⟨n2, t2, o2⟩, ⟨n3, t3, o3⟩, n4, t4, o4⟩ := hf
  refine eqStep n0 t0 o0 (by kernel_rfl) (by kernel_rfl) (run_equalIn_string w 9998 _ _ _ Tryz.underlying9) ?_
  refine eqStep n1 t1 o1 (by kernel_rfl) (by kernel_rfl) (run_equalIn_string w 9998 _ _ _ Tryz.underlying9) ?_
  refine eqStep n2 t2 o2 (by kernel_rfl) (by kernel_rfl) (run_equalIn_int w 9998 _ .i64 _ _ _ Tryz.underlying3) ?_
  refine eqStep n3 t3 o3 (by kernel_rfl) (by kernel_rfl) (run_equalIn_int w 9998 _ .i64 _ _ _ Tryz.underlying3) ?_
  have h4 := eqStep (d := 9999) (xs := #[.string p.prev, .string p.root, .int .i64 p.time, .int .i64 p.diff, .int .i64 p.nonce]) (ys := #[.string q.prev, .string q.root, .int .i64 q.time, .int .i64 q.diff, .int .i64 q.nonce]) (fs := []) (w := w) (P := Tryz.prog) (r2 := true) n4 t4 o4 (by kernel_rfl) (by kernel_rfl) (run_equalIn_int w 9998 _ .i64 _ p.nonce q.nonce Tryz.underlying3) (by simp [Op.eqFields])
  rw [Bool.and_true] at h4
  exact h4
theorem runHeadEq (p q : HeadV) (w : World) : (binOp .eql 24 (.agg #[.string p.prev, .string p.root, .int .i64 p.time, .int .i64 p.diff, .int .i64 p.nonce]) (.agg #[.string q.prev, .string q.root, .int .i64 q.time, .int .i64 q.diff, .int .i64 q.nonce])).run Tryz.prog w = .ok (.bool (sameHB p q)) w := by
  rw [run_eql_struct, runSameHead]
  rfl
theorem runHeadNe (p q : HeadV) (w : World) : (binOp .neq 24 (.agg #[.string p.prev, .string p.root, .int .i64 p.time, .int .i64 p.diff, .int .i64 p.nonce]) (.agg #[.string q.prev, .string q.root, .int .i64 q.time, .int .i64 q.diff, .int .i64 q.nonce])).run Tryz.prog w = .ok (.bool (!sameHB p q)) w := by
  rw [run_neq_struct, runSameHead]
  rfl
theorem sameHB_iff (p q : HeadV) : sameHB p q = true ↔ p = q := by
  have hs : ∀ a b : ByteArray, a.toList = b.toList → a = b := fun a b h => by
    rw [ByteArray.toList_eq, ByteArray.toList_eq] at h
    exact ByteArray.ext (by simpa using h)
  constructor
  · intro h
    simp only [sameHB, Bool.and_eq_true, beq_iff_eq] at h
    obtain ⟨h0, h1, h2, h3, h4⟩ := h
    cases p
    cases q
    simp_all
    exact ⟨hs _ _ h0, hs _ _ h1⟩
  · rintro rfl
    simp [sameHB]

end Go.Proofs.YtialhnocknogpaaGreatDoor

set_option linter.unusedVariables false
namespace Go.Proofs.YtialhnocknogpaaGreatDoor
open Go.RowKit Go.Deep

theorem fieldsPk : (Tryz.prog.fieldsOf 54).toList.map (fun f => (f.name != "_", f.type, f.offset)) = [(true, 9, 0), (true, 3, 1), (true, 3, 2)] := by kernel_rfl
theorem eqPkT : Tryz.prog.underlying 54 = some (.struct (Tryz.prog.fieldsOf 54)) := by kernel_rfl
theorem eqPkS : Tryz.prog.stoodInHeld 54 = false := by kernel_rfl
theorem eqPkG : Tryz.prog.eqGuardType Tryz.prog.depth 54 = false := by kernel_rfl
theorem runSamePk (p q : PeakV) (w : World) : (Op.equalIn 10000 54 (.agg #[.string p.sum, .int .i64 p.work, .int .i64 p.count]) (.agg #[.string q.sum, .int .i64 q.work, .int .i64 q.count])).run Tryz.prog w = .ok (samePB p q) w := by
  rw [run_equalIn_struct w 9999 _ _ _ eqPkT eqPkS]
  have hf := fieldsPk
  generalize (Tryz.prog.fieldsOf 54).toList = fs at hf
  rcases fs with _ | ⟨f0, _ | ⟨f1, _ | ⟨f2, _ | ⟨f3, fs⟩⟩⟩⟩
  all_goals try (simp at hf; done)
  simp only [List.map_cons, List.map_nil, List.cons.injEq, Prod.mk.injEq, and_true] at hf
  obtain ⟨⟨n0, t0, o0⟩, ⟨n1, t1, o1⟩, n2, t2, o2⟩ := hf
  refine eqStep n0 t0 o0 (by kernel_rfl) (by kernel_rfl) (run_equalIn_string w 9998 _ _ _ Tryz.underlying9) ?_
  refine eqStep n1 t1 o1 (by kernel_rfl) (by kernel_rfl) (run_equalIn_int w 9998 _ .i64 _ _ _ Tryz.underlying3) ?_
  have h4 := eqStep (d := 9999) (xs := #[.string p.sum, .int .i64 p.work, .int .i64 p.count]) (ys := #[.string q.sum, .int .i64 q.work, .int .i64 q.count]) (fs := []) (w := w) (P := Tryz.prog) (r2 := true) n2 t2 o2 (by kernel_rfl) (by kernel_rfl) (run_equalIn_int w 9998 _ .i64 _ p.count q.count Tryz.underlying3) (by simp [Op.eqFields])
  rw [Bool.and_true] at h4
  exact h4

set_option maxHeartbeats 1000000 in
set_option maxRecDepth 100000 in
theorem implPeakAlike (a b : PeakV) (w : World) :
    Calls Tryz.prog 33 #[peakVal a, peakVal b] w fun e w' => e = .returned (.bool (a.count == b.count)) ∧ Below w.heap.size w w' := by
  unfold peakVal
  have L0 : Hid (Below w.heap.size w ((w.alloc (.cells #[.string a.sum, .int .i64 a.work, .int .i64 a.count] 54)).alloc (.cells #[.string b.sum, .int .i64 b.work, .int .i64 b.count] 54))) := ((Below.refl _ w).alloc (Nat.le_refl _) _).alloc (by simp) _
  go_enter Tryz.func33, Tryz.ntmps33
  go_wp2
  go_ret
  exact ⟨rfl, L0.out⟩

/-- What stands while a head climbs: the peak that is looked for, the head, the peak so far. -/
structure ClimbW (w wr : World) (g0 g9 : Nat) (top q : PeakV) : Prop where
  t : CBk wr g0 54 #[.string top.sum, .int .i64 top.work, .int .i64 top.count]
  p : CBk wr g9 54 #[.string q.sum, .int .i64 q.work, .int .i64 q.count]
  ne : g0 < g9
  lo : w.heap.size ≤ g0
  b : Below w.heap.size w wr
theorem ClimbW.call {w wr w' : World} {g0 g9 : Nat} {top q : PeakV} (h : ClimbW w wr g0 g9 top q) (hb : Below wr.heap.size wr w') : ClimbW w w' g0 g9 top q :=
  ⟨h.t.call hb, h.p.call hb, h.ne, h.lo, h.b.trans (hb.mono h.b.size)⟩
theorem ClimbW.store {w wr : World} {g0 g9 : Nat} {top q : PeakV} (h : ClimbW w wr g0 g9 top q) (r : PeakV) : ClimbW w (((wr.setCell ⟨g9, 0, none⟩ (.string r.sum)).setCell ⟨g9, 1, none⟩ (.int .i64 r.work)).setCell ⟨g9, 2, none⟩ (.int .i64 r.count)) g0 g9 top r := by
  have h1 := h.ne
  have h2 := h.lo
  exact ⟨((h.t.other (by omega) _).other (by omega) _).other (by omega) _, h.p.set3, h1, h2, ((h.b.setCell (p := ⟨g9, 0, none⟩) (by show w.heap.size ≤ g9; omega) _).setCell (p := ⟨g9, 1, none⟩) (by show w.heap.size ≤ g9; omega) _).setCell (p := ⟨g9, 2, none⟩) (by show w.heap.size ≤ g9; omega) _⟩

end Go.Proofs.YtialhnocknogpaaGreatDoor

set_option linter.unusedVariables false
namespace Go.Proofs.YtialhnocknogpaaGreatDoor
open Go.RowKit

/-- A slice of integers that came in: it is nil; or it leads to a row of cells, the numbers zs. -/
def IsRow (k : IntKind) (w : World) (a : Option Addr) (len cap : Nat) (zs : List Int) : Prop :=
  (a = none ∧ len = 0 ∧ cap = 0 ∧ zs = []) ∨
  ∃ x, a = some x ∧ len ≤ cap ∧ cap ≤ maxLen ∧ zs.length = cap ∧ (∀ i, i < zs.length → w.cell? (x.add i) = some (.int k (zs.getD i 0))) ∧ ∀ n ∈ zs, (Lit.int k n).wf = true

theorem xor_nat (X Y : Int) (hX : 0 ≤ X) (hX' : X < 4611686018427387904) (hY : 0 ≤ Y) (hY' : Y < 4611686018427387904) : ∃ u : Nat, bits .xor .i64 X Y = (u : Int) := by
  obtain ⟨a, rfl⟩ := Int.eq_ofNat_of_zero_le hX
  obtain ⟨b, rfl⟩ := Int.eq_ofNat_of_zero_le hY
  refine ⟨a ^^^ b, ?_⟩
  have hx : a ^^^ b < 2 ^ 62 := Nat.xor_lt_two_pow (by omega) (by omega)
  have h1 : (BitVec.ofInt 64 (a : Int)).toNat = a := by
    rw [BitVec.ofInt_natCast, BitVec.toNat_ofNat]; exact Nat.mod_eq_of_lt (by omega)
  have h2 : (BitVec.ofInt 64 (b : Int)).toNat = b := by
    rw [BitVec.ofInt_natCast, BitVec.toNat_ofNat]; exact Nat.mod_eq_of_lt (by omega)
  show IntKind.i64.wrap ((BitVec.ofInt 64 (a : Int) ^^^ BitVec.ofInt 64 (b : Int)).toNat : Int) = _
  rw [BitVec.toNat_xor, h1, h2, IntKind.wrap_i64]
  omega

/-- The reader: its block b, one of the call's own, the bytes that it reads, which came in, its place p. -/
def Rd (B b p : Nat) (w : World) : Prop :=
  B ≤ b ∧ ∃ (a : Option Addr) (n cap : Nat) (zs : List Int), n ≤ 2000 ∧ w.heap[b]? = some (.cells #[.slice a n cap, .int .i64 p] 65 (0, 0)) ∧
    (n ≠ 0 → ∃ x o, a = some ⟨x, o, none⟩ ∧ x < B ∧ (∀ i, i < n → w.cell? ⟨x, o + i, none⟩ = some (.int .u8 (zs.getD i 0)) ∧ 0 ≤ zs.getD i 0 ∧ zs.getD i 0 ≤ 255))

/-- Block b alone has turned. -/
structure Only (b : Nat) (w w' : World) : Prop where
  os : w'.os = w.os
  tape : w'.tape = w.tape
  output : w'.output = w.output
  size : w'.heap.size = w.heap.size
  block : ∀ c, c ≠ b → w'.heap[c]? = w.heap[c]?
theorem Only.below {B b : Nat} {w w' : World} (h : Only b w w') (hb : B ≤ b) : Below B w w' :=
  ⟨h.os, h.tape, h.output, by rw [h.size]; exact Nat.le_refl _, fun k hk => h.block k (by omega)⟩
theorem Only.refl (b : Nat) (w : World) : Only b w w := ⟨rfl, rfl, rfl, rfl, fun _ _ => rfl⟩
theorem Only.trans {b : Nat} {u v w : World} (h : Only b u v) (k : Only b v w) : Only b u w :=
  ⟨k.os.trans h.os, k.tape.trans h.tape, k.output.trans h.output, k.size.trans h.size, fun c hc => (k.block c hc).trans (h.block c hc)⟩
theorem Only.setCell (b o : Nat) (v : Value) (w : World) : Only b w (w.setCell ⟨b, o, none⟩ v) :=
  ⟨rfl, rfl, rfl, by simp [World.setCell], fun c hc => Below.heap_setCell _ _ _ _ hc⟩
theorem Only.drew {b : Nat} {w w' : World} (h : Only b w w') : Only b w w'.drew := ⟨h.os, h.tape, h.output, h.size, h.block⟩
theorem Only.drewN {b : Nat} {w w' : World} (h : Only b w w') (n : Nat) : Only b w (w'.drewN n) := ⟨h.os, h.tape, h.output, h.size, h.block⟩

/-- What a step leaves below block b and in b leaves the reader. -/
theorem Rd.keep {B b p : Nat} {w w' : World} (h : Rd B b p w) (hk : Below (b + 1) w w') : Rd B b p w' := by
  obtain ⟨hB, a, n, cap, zs, hn, hb, hc⟩ := h
  refine ⟨hB, a, n, cap, zs, hn, by rw [hk.block b (by omega)]; exact hb, fun h0 => ?_⟩
  obtain ⟨x, o, ha, hx, hcs⟩ := hc h0
  exact ⟨x, o, ha, hx, fun i hi => ⟨by rw [hk.cell (show (⟨x, o + i, none⟩ : Addr).block < b + 1 by show x < b + 1; omega)]; exact (hcs i hi).1, (hcs i hi).2⟩⟩
theorem Rd.lt {B b p : Nat} {w : World} (h : Rd B b p w) : b < w.heap.size := by
  obtain ⟨_, a, n, cap, zs, _, hb, _⟩ := h
  rcases Nat.lt_or_ge b w.heap.size with h' | h'
  · exact h'
  · simp [Array.getElem?_eq_none h'] at hb

set_option maxHeartbeats 2000000 in
set_option maxRecDepth 100000 in
theorem open_walk (a : Option Addr) (len cap : Nat) (zs : List Int) (w : World) (h : IsRow .u8 w a len cap zs) :
    Calls Tryz.prog 9 #[.slice a len cap] w fun e w' => e = .returned (.pointer (some ⟨w.heap.size, 0, none⟩)) ∧ Rd w.heap.size w.heap.size 0 w' ∧ Below w.heap.size w w' ∧ w'.heap.size = w.heap.size + 1 := by
  rcases h with ⟨rfl, rfl, rfl, rfl⟩ | ⟨x, rfl, hl, hm, hz, hcell, hwz⟩
  · go_enter Tryz.func9, Tryz.ntmps9
    go_wp2
    go_ret
    exact ⟨rfl, ⟨Nat.le_refl _, none, 0, 0, [], by omega, heap_alloc_new w _, fun h => absurd rfl h⟩, (Below.refl _ w).alloc (Nat.le_refl _) _, by simp⟩
  · have hrd : ∀ n, n ≤ len → n ≤ 2000 → Rd w.heap.size w.heap.size 0 (w.alloc (.cells #[.slice (some x) n cap, .int .i64 0] 65)) := by
      intro n hn hn2
      refine ⟨Nat.le_refl _, some x, n, cap, zs, hn2, heap_alloc_new w _, fun h0 => ?_⟩
      obtain ⟨b, o, spot⟩ := x
      have hc0 := hcell 0 (by omega)
      have hspot : spot = none := by simpa [Addr.add] using World.cell?_spot hc0
      subst hspot
      have hlt : b < w.heap.size := World.block_lt_of_cell? w _ hc0
      refine ⟨b, o, rfl, hlt, fun i hi => ?_⟩
      have hci := hcell i (by omega)
      refine ⟨?_, ?_⟩
      · rw [World.cell?_of_block (w := w) (a := ⟨b, o + i, none⟩) (Below.heap_alloc w _ b hlt)]
        by_cases h0 : i = 0
        · subst h0; simpa [Addr.add] using hci
        · simpa [Addr.add, h0] using hci
      · have hmem : zs.getD i 0 ∈ zs := by
          have hi' : i < zs.length := by omega
          simp [List.getElem?_eq_getElem hi']
        have := hwz _ hmem
        exact bounds_u8 this
    by_cases h2 : (2000 : Int) < (len : Int)
    · go_enter Tryz.func9, Tryz.ntmps9
      go_wp2
      go_ret
      exact ⟨rfl, hrd 2000 (by omega) (by omega), (Below.refl _ w).alloc (Nat.le_refl _) _, by simp⟩
    · go_enter Tryz.func9, Tryz.ntmps9
      go_wp2
      go_ret
      exact ⟨rfl, hrd len (by omega) (by omega), (Below.refl _ w).alloc (Nat.le_refl _) _, by simp⟩

theorem Rd.next {B b p : Nat} {w : World} (h : Rd B b p w) : Rd B b (p + 1) (w.setCell ⟨b, 1, none⟩ (.int .i64 (p + 1))) := by
  obtain ⟨hB, a, n, cap, zs, hn, hb, hc⟩ := h
  refine ⟨hB, a, n, cap, zs, hn, by simp [World.setCell, Array.getElem?_modify, hb], fun h0 => ?_⟩
  obtain ⟨x, o, ha, hx, hcs⟩ := hc h0
  refine ⟨x, o, ha, hx, fun i hi => ⟨?_, (hcs i hi).2⟩⟩
  rw [World.cell?_of_block (w := w) (a := ⟨x, o + i, none⟩) (Below.heap_setCell w ⟨b, 1, none⟩ _ x (by show x ≠ b; omega))]
  exact (hcs i hi).1

set_option maxHeartbeats 2000000 in
set_option maxRecDepth 100000 in
theorem pick_walk (B b p : Nat) (n : Int) (w : World) (h : Rd B b p w) (hp : p < 1000000000) (hn31 : n ≤ 1000000000) :
    Calls Tryz.prog 11 #[.pointer (some ⟨b, 0, none⟩), .int .i64 n] w fun e w' => ∃ x : Nat, e = .returned (.int .i64 x) ∧ (1 ≤ n → (x : Int) < n) ∧ (n < 1 → x = 0) ∧ Rd B b (p + 1) w' ∧ Only b w w' := by
  have hnext := h.next
  obtain ⟨hB, a, len, cap, zs, hlen, hb, hc⟩ := h
  have c0 : w.cell? ⟨b, 0, none⟩ = some (.slice a len cap) := by rw [Lib.cell_of_heap hb]; rfl
  have c1 : w.cell? ⟨b, 1, none⟩ = some (.int .i64 p) := by rw [Lib.cell_of_heap hb]; rfl
  have f1 : w.frozen? ⟨b, 1, none⟩ = false := Lib.frozen_of_heap hb 1
  have HO := Only.setCell b 1 (.int .i64 ((p : Int) + 1)) w
  by_cases hn : n < 1
  · go_enter Tryz.func11, Tryz.ntmps11
    go_wp2
    go_ret
    exact ⟨0, rfl, fun h => by omega, fun _ => rfl, hnext, HO⟩
  · by_cases hl0 : len = 0
    · subst hl0
      go_enter Tryz.func11, Tryz.ntmps11
      go_wp2
      go_ret
      exact ⟨0, rfl, by omega, by omega, hnext, HO⟩
    · obtain ⟨x, o, rfl, hxB, hcs⟩ := hc hl0
      have hcx : ∀ i, i < len → (w.setCell ⟨b, 1, none⟩ (.int .i64 ((p : Int) + 1))).cell? ⟨x, o + i, none⟩ = some (.int .u8 (zs.getD i 0)) := by
        intro i hi
        rw [World.cell?_of_block (w := w) (a := ⟨x, o + i, none⟩) (Below.heap_setCell w ⟨b, 1, none⟩ _ x (by show x ≠ b; omega))]
        exact (hcs i hi).1
      have hl0' : ((len : Int) == 0) = false := by simp; omega
      by_cases hpl : p < len
      · have hcp := hcx p hpl
        have hz := (hcs p hpl).2
        obtain ⟨z, hzz⟩ : ∃ z, z = zs.getD p 0 := ⟨_, rfl⟩
        rw [← hzz] at hcp hz
        clear hcx hcs hc hzz
        obtain ⟨hz0, hz1⟩ := hz
        go_enter Tryz.func11, Tryz.ntmps11
        go_wp2
        go_ret
        obtain ⟨y, hy⟩ := Int.eq_ofNat_of_zero_le (Int.emod_nonneg z (show n ≠ 0 by omega))
        have hyl : (y : Int) < n := by rw [← hy]; exact Int.emod_lt_of_pos _ (by omega)
        exact ⟨y, congrArg (fun t => Ending.returned (Value.int .i64 t)) hy, by first | exact fun _ => hyl | exact hyl, by omega, hnext, HO⟩
      · clear hc
        obtain ⟨q1, hq1⟩ : ∃ q : Nat, (p : Int) % (len : Int) = (q : Int) := ⟨p % len, by simp⟩
        have hq1l : (q1 : Int) < (len : Int) := by rw [← hq1]; exact Int.emod_lt_of_pos _ (by omega)
        obtain ⟨q2, hq2⟩ : ∃ q : Nat, ((p : Int) * 7 + 3) % (len : Int) = (q : Int) := ⟨(p * 7 + 3) % len, by simp⟩
        have hq2l : (q2 : Int) < (len : Int) := by rw [← hq2]; exact Int.emod_lt_of_pos _ (by omega)
        obtain ⟨q3, hq3⟩ : ∃ q : Nat, (p : Int) / (len : Int) = (q : Int) := ⟨p / len, by simp⟩
        have hq3l : q3 ≤ p := by
          have : p / len ≤ p := Nat.div_le_self _ _
          have h2 : ((p / len : Nat) : Int) = (q3 : Int) := by rw [← hq3]; simp
          omega
        have hc1 := hcx q1 (by omega)
        have hz1 := (hcs q1 (by omega)).2
        have hc2 := hcx q2 (by omega)
        have hz2 := (hcs q2 (by omega)).2
        obtain ⟨z1, hzz1⟩ : ∃ z, z = zs.getD q1 0 := ⟨_, rfl⟩
        obtain ⟨z2, hzz2⟩ : ∃ z, z = zs.getD q2 0 := ⟨_, rfl⟩
        rw [← hzz1] at hc1 hz1
        rw [← hzz2] at hc2 hz2
        clear hcx hcs hzz1 hzz2
        obtain ⟨hz10, hz11⟩ := hz1
        obtain ⟨hz20, hz21⟩ := hz2
        go_enter Tryz.func11, Tryz.ntmps11
        go_wp2_with fail
        go_quiet (fail)
        go_wp2
        go_ret
        obtain ⟨u, hu⟩ := xor_nat (z1 * 131 + z2 * 1117 + (p : Int) * 29 + (q3 : Int) * 53) ((z1 * 131 + z2 * 1117 + (p : Int) * 29 + (q3 : Int) * 53) / 64) (by omega) (by omega) (by omega) (by omega)
        obtain ⟨y, hy⟩ := Int.eq_ofNat_of_zero_le (Int.emod_nonneg (u : Int) (show n ≠ 0 by omega))
        have hyl : (y : Int) < n := by rw [← hy]; exact Int.emod_lt_of_pos _ (by omega)
        have ht : (bits .xor .i64 (z1 * 131 + z2 * 1117 + (p : Int) * 29 + (q3 : Int) * 53) ((z1 * 131 + z2 * 1117 + (p : Int) * 29 + (q3 : Int) * 53) / 64)).tmod n = (y : Int) := by
          rw [hu, Int.tmod_eq_emod_of_nonneg (by omega)]; exact hy
        exact ⟨y, congrArg (fun t => Ending.returned (Value.int .i64 t)) ht, by first | exact fun _ => hyl | exact hyl, by omega, hnext.keep ⟨rfl, rfl, rfl, Nat.le_refl _, fun _ _ => rfl⟩, HO.drewN nq⟩

/-- One of a list of numbers that the call has just laid. -/
theorem one_walk (B b p : Nat) (g n cap : Nat) (zs : List Int) (w : World) (h : Rd B b p w) (hp : p < 1000000000) (hn0 : 1 ≤ n) (hn31 : n ≤ 1000000000) (hcell : ∀ i, i < n → w.cell? ⟨g, i, none⟩ = some (.int .i64 (zs.getD i 0))) (hgb : g ≠ b) :
    Calls Tryz.prog 12 #[.pointer (some ⟨b, 0, none⟩), .slice (some ⟨g, 0, none⟩) n cap] w fun e w' => ∃ x : Nat, x < n ∧ e = .returned (.int .i64 (zs.getD x 0)) ∧ Rd B b (p + 1) w' ∧ Only b w w' := by
  go_enter Tryz.func12, Tryz.ntmps12
  go_wp2_with (go_at_call 11; refine (pick_walk B b p _ _ h hp (by omega)).mono ?_)
  rintro e w1 ⟨x, rfl, hx, _, hr, ho⟩
  have hxn : (x : Int) < (n : Int) := hx (by omega)
  have hc : w1.cell? ⟨g, x, none⟩ = some (.int .i64 (zs.getD x 0)) := by
    rw [World.cell?_of_block (w := w) (a := ⟨g, x, none⟩) (ho.block g hgb)]
    exact hcell x (by omega)
  obtain ⟨z, hz⟩ : ∃ z, z = zs.getD x 0 := ⟨_, rfl⟩
  rw [← hz] at hc
  have HZ : Hid (z = zs.getD x 0) := hz
  clear hz hx hcell
  go_wp2
  go_ret
  exact ⟨x, by omega, by rw [← HZ.out]; rfl, hr, ho⟩

/-- One of a list of texts that the call has just laid. -/
theorem of_walk (B b p : Nat) (g n cap : Nat) (ss : List ByteArray) (w : World) (h : Rd B b p w) (hp : p < 1000000000) (hn0 : 1 ≤ n) (hn31 : n ≤ 1000000000) (hcell : ∀ i, i < n → w.cell? ⟨g, i, none⟩ = some (.string (ss.getD i ByteArray.empty))) (hgb : g ≠ b) :
    Calls Tryz.prog 88 #[.pointer (some ⟨b, 0, none⟩), .slice (some ⟨g, 0, none⟩) n cap] w fun e w' => ∃ x : Nat, x < n ∧ e = .returned (.string (ss.getD x ByteArray.empty)) ∧ Rd B b (p + 1) w' ∧ Only b w w' := by
  go_enter Tryz.func88, Tryz.ntmps88
  go_wp2_with (go_at_call 11; refine (pick_walk B b p _ _ h hp (by omega)).mono ?_)
  rintro e w1 ⟨x, rfl, hx, _, hr, ho⟩
  have hxn : (x : Int) < (n : Int) := hx (by omega)
  have hc : w1.cell? ⟨g, x, none⟩ = some (.string (ss.getD x ByteArray.empty)) := by
    rw [World.cell?_of_block (w := w) (a := ⟨g, x, none⟩) (ho.block g hgb)]
    exact hcell x (by omega)
  obtain ⟨z, hz⟩ : ∃ z, z = ss.getD x ByteArray.empty := ⟨_, rfl⟩
  rw [← hz] at hc
  have HZ : Hid (z = ss.getD x ByteArray.empty) := hz
  clear hz hx hcell
  go_wp2
  go_ret
  exact ⟨x, by omega, by rw [← HZ.out]; rfl, hr, ho⟩

/-- The cells of a list of numbers, of texts, that lies whole in a block. -/
theorem cells_ints {w : World} {g : Nat} {zs : List Int} {cs : Array Value} {T : TypeId} {fr : Nat × Nat} (h : w.heap[g]? = some (.cells cs T fr)) (he : cs = (zs.map (Value.int .i64)).toArray) (n : Nat) (hn : n ≤ zs.length) :
    ∀ i, i < n → w.cell? ⟨g, i, none⟩ = some (.int .i64 (zs.getD i 0)) := by
  intro i hi
  rw [Lib.cell_of_heap h, he]
  have : i < zs.length := by omega
  simp [List.getElem?_eq_getElem this]
theorem cells_texts {w : World} {g : Nat} {ss : List ByteArray} {cs : Array Value} {T : TypeId} {fr : Nat × Nat} (h : w.heap[g]? = some (.cells cs T fr)) (he : cs = (ss.map Value.string).toArray) (n : Nat) (hn : n ≤ ss.length) :
    ∀ i, i < n → w.cell? ⟨g, i, none⟩ = some (.string (ss.getD i ByteArray.empty)) := by
  intro i hi
  rw [Lib.cell_of_heap h, he]
  have : i < ss.length := by omega
  simp [List.getElem?_eq_getElem this]

end Go.Proofs.YtialhnocknogpaaGreatDoor

set_option linter.unusedVariables false
namespace Go.Proofs.YtialhnocknogpaaGreatDoor
open Go.RowKit Go.Deep

end Go.Proofs.YtialhnocknogpaaGreatDoor

