/-
  At every code: the program's FilterAny of the drawn filter, key and items is what the specification answers, and is true just if FilterHas is of one of them; no condition.
-/
import Derived.Test.YtcaejndpmagfaaaDoorPart1
import Derived.Test.YtcaejndpmagfaaaDoorPart2
import Derived.Test.YtcaejndpmagfaaaDoorPart3
import Derived.Test.YtcaejndpmagfaaaDoorPart4
import Derived.Test.YtcaejndpmagfaaaDoorPart5
import Derived.Test.YtcaejndpmagfaaaDoorCards
import Derived.Test.YtcaejndpmagfaaaDoorTie
import Derived.WalkKit
import Derived.ProofKit
import Derived.OpenShut
import Derived.ShutString
import Derived.ChangeOld
import Derived.ChangeVars
import Derived.Below
import Derived.Carry
import Derived.Deep.DeepHandedRow
import Derived.Lib.LaidTab
set_option linter.unusedVariables false
namespace Go.Proofs.YtcaejndpmagfaaaDoor
open Go.RowKit

theorem sha0_cells : uCells sha0.toL = #[Value.int .u32 1779033703, Value.int .u32 3144134277, Value.int .u32 1013904242, Value.int .u32 2773480762, Value.int .u32 1359893119, Value.int .u32 2600822924, Value.int .u32 528734635, Value.int .u32 1541459225] := rfl
theorem shaK_len : shaK.length = 64 := rfl
theorem loadU8 (l : List Nat) (hl : l.length = 8) (g : Nat) (w : World) (h : RowU 70 w g l) : (Instr.loadAt 70 (.pointer (some ⟨g, 0, none⟩))).run Tryd.prog w = .ok (.agg (uCells l)) w := by
  have := run_loadAt_mid (P := Tryd.prog) w g 0 70 (uCells l).toList _ h.range Tryd.underlying70 rfl (by rw [size8, Array.length_toList, uCells_size, hl])
  rw [Array.toArray_toList] at this
  exact this
theorem storeU8 (l m : List Nat) (hl : l.length = 8) (hm : m.length = 8) (g : Nat) (w : World) (h : RowU 70 w g m) : (Instr.storeAt 70 (.pointer (some ⟨g, 0, none⟩)) (.agg (uCells l))).run Tryd.prog w = .ok () (w.setCells g 0 (uCells l).toList) :=
  run_storeAt_mid (P := Tryd.prog) w g 0 70 (uCells l) (h.there _ (by rw [uCells_size, hl, hm])) (by rw [size8, uCells_size, hl]) (uCells_one _)

theorem scheduleI2 (bs : List Nat) (g o cap : Nat) (w : World) (hn : ∀ i, i < bs.length → w.cell? ⟨g, o + i, none⟩ = some (.int .u8 ((bs.getD i 0 : Nat) : Int))) (hl : bs.length = 64) (hbb : ∀ x ∈ bs, x < 256) (hg : g < w.heap.size) :
    Calls Tryd.prog 53 #[.slice (some ⟨g, o, none⟩) 64 cap] w fun e w' => ∃ ws, e = .returned (.agg (uCells ws)) ∧ Hid (ws = schedTo bs 48) ∧ Hid (Below w.heap.size w w') :=
  (scheduleI bs g o cap w hn hl hbb hg).mono fun e w' h => ⟨_, h.1, rfl, h.2⟩
theorem nextI2 (bs : List Nat) (hbb : ∀ x ∈ bs, x < 256) (ws : List Nat) (hws : ws = schedTo bs 48) (s : St) (hs : s.ok) (w : World) (hms : RowG w shaK) :
    Calls Tryd.prog 52 #[.agg (uCells s.toL), .agg (uCells ws)] w fun e w' => ∃ l, e = .returned (.agg (uCells l)) ∧ Hid (l = (mix shaK s bs).toL) ∧ Hid (Below w.heap.size w w') := by
  have h1 := schedTo_length bs 48
  have h2 := schedTo_lt bs hbb 48
  have h3 : mix shaK s bs = s.plus (rounds shaK (schedTo bs 48) s 64) := rfl
  rw [← hws] at h1 h2 h3
  exact (nextI shaK ws s hs w hms shaK_len shaK_ok h1 h2).mono fun e w' h => ⟨_, h.1, by rw [h3]; rfl, h.2⟩

theorem toL_len (s : St) : s.toL.length = 8 := rfl
theorem cells8 {T : TypeId} {w : World} {G a b c d e f g h : Nat} (H : RowU T w G (St.toL ⟨a, b, c, d, e, f, g, h⟩)) : w.cell? ⟨G, 0, none⟩ = some (.int .u32 (a : Int)) ∧ w.cell? ⟨G, 1, none⟩ = some (.int .u32 (b : Int)) ∧ w.cell? ⟨G, 2, none⟩ = some (.int .u32 (c : Int)) ∧ w.cell? ⟨G, 3, none⟩ = some (.int .u32 (d : Int)) ∧ w.cell? ⟨G, 4, none⟩ = some (.int .u32 (e : Int)) ∧ w.cell? ⟨G, 5, none⟩ = some (.int .u32 (f : Int)) ∧ w.cell? ⟨G, 6, none⟩ = some (.int .u32 (g : Int)) ∧ w.cell? ⟨G, 7, none⟩ = some (.int .u32 (h : Int)) :=
  ⟨H.cell 0 (by show _ < 8; decide), H.cell 1 (by show _ < 8; decide), H.cell 2 (by show _ < 8; decide), H.cell 3 (by show _ < 8; decide), H.cell 4 (by show _ < 8; decide), H.cell 5 (by show _ < 8; decide), H.cell 6 (by show _ < 8; decide), H.cell 7 (by show _ < 8; decide)⟩
theorem nextI3 (bs : List Nat) (hbb : ∀ x ∈ bs, x < 256) (ws : List Nat) (hws : ws = schedTo bs 48) (a b c d e f g h : Nat) (hs : (⟨a, b, c, d, e, f, g, h⟩ : St).ok) (w : World) (hms : RowG w shaK) :
    Calls Tryd.prog 52 #[.agg #[.int .u32 (a : Int), .int .u32 (b : Int), .int .u32 (c : Int), .int .u32 (d : Int), .int .u32 (e : Int), .int .u32 (f : Int), .int .u32 (g : Int), .int .u32 (h : Int)], .agg (uCells ws)] w fun e' w' => ∃ l, e' = .returned (.agg (uCells l)) ∧ Hid (l = (mix shaK ⟨a, b, c, d, e, f, g, h⟩ bs).toL) ∧ Hid (Below w.heap.size w w') :=
  nextI2 bs hbb ws hws ⟨a, b, c, d, e, f, g, h⟩ hs w hms

set_option maxHeartbeats 1000000 in
set_option maxRecDepth 100000 in
theorem implSum (s : ByteArray) (w : World) (hs : s.size ≤ 1073741824) (hK : RowG w shaK) :
    Calls Tryd.prog 35 #[.string s] w fun e w' => e = .returned (.string ⟨(sumB s.data.toList).toArray⟩) ∧ Below w.heap.size w w' := by
  obtain ⟨W, hW⟩ : ∃ W, W = w.alloc (.cells (uCells sha0.toL) 70) := ⟨_, rfl⟩
  have HZ : Hid (RowU 70 W w.heap.size sha0.toL ∧ W.heap.size = w.heap.size + 1 ∧ Below w.heap.size w W) := by
    refine ⟨?_, ?_, ?_⟩
    · rw [hW]; exact heap_alloc_new w _
    · rw [hW]; simp
    · rw [hW]; exact (Below.refl _ w).alloc (Nat.le_refl _) _
  have HW : Hid (W = w.alloc (.cells (uCells sha0.toL) 70)) := hW
  have HK : Hid (RowG w shaK) := hK
  clear hW hK
  go_enter Tryd.func35, Tryd.ntmps35
  go_wp2_with fail
  rw [← sha0_cells, ← HW.out]
  refine (paddedI s _ hs).mono ?_
  rintro e w1 ⟨g, cap, rfl, hrow, b1⟩
  have hg := hrow.lt
  have hcells : ∀ i, i < padLen s.size → w1.cell? ⟨g, i, none⟩ = some (.int .u8 (((padN s.data.toList).getD i 0 : Nat) : Int)) := by
    intro i hi
    have hlB : i < (padB s.data.toList).length := by rw [padB_length]; simpa using hi
    rw [hrow.cells i hlB, padN_padB]
    simp [List.getElem?_eq_getElem hlB]
  have hcap : padLen s.size ≤ cap ∧ cap ≤ maxLen := by
    obtain ⟨g', cap', cur, fz, hv, _, _, _, h1, h2, _⟩ := hrow
    simp only [Value.slice.injEq, Option.some.injEq, Addr.mk.injEq, and_true] at hv
    obtain ⟨_, _, rfl⟩ := hv
    rw [padB_length] at h1
    exact ⟨by simpa using h1, h2⟩
  have hlen := padN_length s.data.toList
  rw [show s.data.toList.length = s.size from by simp] at hlen
  have hpl := padN_lt s.data.toList
  have HSH : Hid (sha s.data.toList = mixTo (padN s.data.toList) (padLen s.size / 64)) := by
    show _ = _
    rw [sha, show s.data.toList.length = s.size from by simp]
  generalize padN s.data.toList = P at hcells hlen hpl HSH
  obtain ⟨L, hL⟩ : ∃ L, L = padLen s.size := ⟨_, rfl⟩
  have hL2 : L ≤ s.size + 72 := by rw [hL]; unfold padLen; omega
  have HLm : Hid (L % 64 = 0) := by show _ = _; rw [hL]; exact padLen_mod _
  rw [← hL] at hcells hcap hlen HSH ⊢
  have HL : Hid (P.length = L) := hlen
  have HC : Hid (∀ i, i < L → w1.cell? ⟨g, i, none⟩ = some (.int .u8 ((P.getD i 0 : Nat) : Int))) := hcells
  have HG : Hid (w.heap.size + 1 ≤ g ∧ g < w1.heap.size) := by
    refine ⟨?_, hg.2⟩
    have := hg.1
    rw [HZ.out.2.1] at this
    exact this
  have hw0 : 0 < w.heap.size := HK.out.lt
  have HB : Hid (RowU 70 w1 w.heap.size sha0.toL ∧ RowG w1 shaK ∧ Below w.heap.size w w1) := by
    have hb := HZ.out.2.2.trans (b1.mono (by rw [HZ.out.2.1]; omega))
    exact ⟨HZ.out.1.below b1 (by rw [HZ.out.2.1]; omega), HK.out.below hb hw0, hb⟩
  have hc2 := hcap.1
  have hc3 : cap ≤ 9223372036854775807 := by have := hcap.2; simp only [maxLen] at this; omega
  clear hlen hL hg hcells hrow b1 HZ HW hcap
  go_wp2
  go_loopw [5] (fun i wr => ∃ (j m : Nat), m ≤ L ∧ i = .int .i64 (m : Int) ∧ Hid (m = 64 * j) ∧ Hid (RowU 70 wr w.heap.size (mixTo P j).toL) ∧ Hid (RowG wr shaK) ∧ Hid (∀ i, i < L → wr.cell? ⟨g, i, none⟩ = some (.int .u8 ((P.getD i 0 : Nat) : Int))) ∧ Hid (g < wr.heap.size) ∧ Hid (Below w.heap.size w wr)) (fun i _ => L - (intOf i).toNat)
  case atStart => exact ⟨0, 0, by omega, rfl, rfl, HB.out.1, HB.out.2.1, HC, HG.out.2, HB.out.2.2⟩
  case round =>
    obtain ⟨j, m, hm, rfl, HM, HR, HK1, HC1, HG1, HB1⟩ := hrel
    have hm64 : m < L → m + 64 ≤ L := by have h1 := HLm.out; have h2 := HM.out; omega
    by_cases hlt : m < L
    · have hm2 := hm64 hlt
      have hsl : ((P.drop m).take 64).length = 64 := by simp [HL.out]; omega
      have hsb : ∀ x ∈ (P.drop m).take 64, x < 256 := fun x hx => hpl x (List.mem_of_mem_drop (List.mem_of_mem_take hx))
      have HNX : Hid (mixTo P (j + 1) = mix shaK (mixTo P j) ((P.drop m).take 64)) := by show _ = _; rw [mixTo, ← HM.out]
      have HN : Hid (∀ i, i < ((P.drop m).take 64).length → wr.cell? ⟨g, m + i, none⟩ = some (.int .u8 ((((P.drop m).take 64).getD i 0 : Nat) : Int))) := by
        intro i hi
        rw [hsl] at hi
        rw [HC1.out (m + i) (by omega)]
        simp [hi]
      generalize (P.drop m).take 64 = bs at HN hsl hsb HNX
      have Hsb : Hid (∀ x ∈ bs, x < 256) := hsb
      obtain ⟨m2, hm2e⟩ : ∃ m2 : Nat, m2 = m + 64 := ⟨_, rfl⟩
      have lw : IntKind.i64.wrap ((m : Int) + 64) = (m2 : Int) := by rw [IntKind.wrap_i64, hm2e]; omega
      have lm0 : (0 : Int) ≤ (m : Int) := by omega
      have lm1 : (m : Int) ≤ (m2 : Int) := by omega
      have lm2 : (m2 : Int) ≤ (cap : Int) := by omega
      have lm3 : (0 : Int) ≤ (m2 : Int) := by omega
      have ld1 : m2 - m = 64 := by omega
      have lne : ¬ cap = m := by omega
      have ld2 : ((m2 : Int) - (m : Int)).toNat = 64 := by omega
      have ld3 : (m2 : Int) - (m : Int) = 64 := by omega
      have HM2 : Hid (m2 = m + 64) := hm2e
      clear hm2e
      clear hm64 hsb
      have hmo := mixTo_ok P j
      generalize mixTo P j = st at HR HNX hmo
      have hwlt : w.heap.size < wr.heap.size := HR.out.lt
      have hw0lt : 0 < wr.heap.size := by omega
      obtain ⟨a, b, c, d, e, f, gg, h⟩ := st
      have Hok : Hid ((⟨a, b, c, d, e, f, gg, h⟩ : St).ok) := hmo
      obtain ⟨c0, c1, c2, c3, c4, c5, c6, c7⟩ := cells8 HR.out
      clear hmo
      go_wp2_with fail
      go_region_with (first | (go_at_call 53; refine (scheduleI2 bs g m _ _ ?_ hsl Hsb.out ?_).mono ?_; exact HN.out; exact HG1.out; rintro e w2 ⟨ws, rfl, HWS, b2⟩; have hr2 : Hid (RowU 70 w2 w.heap.size (St.toL ⟨a, b, c, d, e, f, gg, h⟩)) := HR.out.drew.below b2.out hwlt; have hk2 : Hid (RowG w2 shaK) := HK1.out.drew.below b2.out hw0lt; obtain ⟨d0, d1, d2, d3, d4, d5, d6, d7⟩ := cells8 hr2.out) | (go_at_call 52; refine (nextI3 bs Hsb.out ws HWS.out a b c d e f gg h Hok.out _ ?_).mono ?_; exact hk2.out; rintro e w3 ⟨l3, rfl, HL3, b3⟩; have hr3 : Hid (RowU 70 w3 w.heap.size (St.toL ⟨a, b, c, d, e, f, gg, h⟩)) := hr2.out.below b3.out hr2.out.lt; have hk3 : Hid (RowG w3 shaK) := hk2.out.below b3.out hk2.out.lt; have hsz : (uCells l3).size = 8 := (by rw [uCells_size, HL3.out]; exact toL_len _); have hst := run_storeCellsU (P := Tryd.prog) hr3.out l3 (by rw [HL3.out, toL_len, toL_len])))
      all_goals
        go_wp2
        go_roundw
        case rel =>
          have hbb : Below w.heap.size w w3 := (HB1.out.drew.trans (b2.out.mono (Nat.le_of_lt hwlt))).trans (b3.out.mono (Nat.le_of_lt hr2.out.lt))
          have hg3 : g < w3.heap.size := Nat.lt_of_lt_of_le HG1.out (Nat.le_trans b2.out.size b3.out.size)
          have hg2 : g < w2.heap.size := Nat.lt_of_lt_of_le HG1.out b2.out.size
          refine ⟨j + 1, m + 64, by omega, by go_num, ?_, ?_, ?_, ?_, ?_, ?_⟩
          · show m + 64 = 64 * (j + 1)
            have := HM.out
            omega
          · show RowU _ _ _ _
            rw [HNX.out, ← HL3.out]
            exact hr3.out.over (by rw [HL3.out, toL_len, toL_len])
          · exact hk3.out.keep (heap_setCells_other _ _ _ _ _ (by omega))
          · intro i hi
            rw [World.cell?_setCells_out _ _ _ _ _ (fun h1 _ => absurd h1 (by have := HG.out.1; show ¬ g = w.heap.size; omega))]
            rw [b3.out.cell (p := ⟨g, i, none⟩) hg2, b2.out.cell (p := ⟨g, i, none⟩) HG1.out]
            exact HC1.out i hi
          · exact Nat.lt_of_lt_of_le hg3 (Below.setCells (Below.refl w.heap.size w3) (Nat.le_refl _) _ _).size
          · exact Below.setCells hbb (Nat.le_refl _) _ _
        case measure => simp [intOf]; omega
    · have HJ : Hid (j = L / 64) := by show j = L / 64; have h1 := HLm.out; have h2 := HM.out; omega
      have HSB : Hid (sumB s.data.toList = hexOf (mixTo P j).a ++ hexOf (mixTo P j).b) := by
        show _ = _
        rw [sumB, HSH.out, ← HJ.out]
      have hok := mixTo_ok P j
      generalize mixTo P j = t at HR hok HSB
      have c0 : wr.cell? ⟨w.heap.size, 0, none⟩ = some (.int .u32 (t.a : Int)) := HR.out.cell 0 (by simp [St.toL])
      have c1 : wr.cell? ⟨w.heap.size, 1, none⟩ = some (.int .u32 (t.b : Int)) := HR.out.cell 1 (by simp [St.toL])
      have hg := HR.out.lt
      have la := hok.1
      have lb := hok.2.1
      have hl8 : ∀ x, (hexOf x).length = 8 := fun x => by simp [hexOf]
      clear hm64 hok
      go_wp2_with fail
      go_region_with (first | (go_at_call_of 54 (Value.int .u32 (t.a : Int)); refine (figuresI _ _ la).mono ?_; rintro e w2 ⟨rfl, b2⟩; have d1 : w2.cell? ⟨w.heap.size, 1, none⟩ = some (.int .u32 (t.b : Int)) := (b2.cell (p := ⟨w.heap.size, 1, none⟩) hg).trans c1) | (go_at_call_of 54 (Value.int .u32 (t.b : Int)); refine (figuresI _ _ lb).mono ?_; rintro e w3 ⟨rfl, b3⟩))
      all_goals
        go_wp2
        go_ret
        rw [HSB.out]
        have hcat : (⟨(hexOf t.a).toArray⟩ : ByteArray) ++ ⟨(hexOf t.b).toArray⟩ = ⟨(hexOf t.a ++ hexOf t.b).toArray⟩ := by
          apply ByteArray.ext; simp
        rw [← hcat]
        have b12 := HB1.out.trans (((Below.drew (Below.refl _ wr)).trans b2).mono HB1.out.size)
        exact ⟨rfl, b12.trans (b3.mono b12.size)⟩

end Go.Proofs.YtcaejndpmagfaaaDoor

set_option linter.unusedVariables false
namespace Go.Proofs.YtcaejndpmagfaaaDoor
open Go.RowKit

set_option maxHeartbeats 2000000 in
set_option maxRecDepth 100000 in
theorem implFilterTo (k it : ByteArray) (below : Int) (w : World) (hK : RowG w shaK) :
    Calls Tryd.prog 16 #[.string k, .string it, .int .i64 below] w fun e w' => e = .returned (.int .i64 (filterTo k.data.toList it.data.toList below)) ∧ Below w.heap.size w w' := by
  have HK : Hid (RowG w shaK) := hK
  clear hK
  cases h1 : isSum k.data.toList with
  | false =>
    rw [filterTo_no1 h1]
    go_enter Tryd.func16, Tryd.ntmps16
    go_wp2_with (go_at_call 21; refine (implSumOk _ _).mono ?_; rintro e w1 ⟨rfl, rfl⟩)
    go_ret
    exact ⟨rfl, Below.refl _ _⟩
  | true =>
    cases h2 : isItem it.data.toList with
    | false =>
      rw [filterTo_no2 h2]
      go_enter Tryd.func16, Tryd.ntmps16
      go_wp2_with (first | (go_at_call 21; refine (implSumOk _ _).mono ?_; rintro e w1 ⟨rfl, rfl⟩) | (go_at_call 22; refine (implItemOk _ _).mono ?_; rintro e w1 ⟨rfl, rfl⟩))
      go_ret
      exact ⟨rfl, Below.refl _ _⟩
    | true =>
      by_cases h3 : below < 1
      · rw [filterTo_no3 (by omega)]
        go_enter Tryd.func16, Tryd.ntmps16
        go_wp2_with (first | (go_at_call 21; refine (implSumOk _ _).mono ?_; rintro e w1 ⟨rfl, rfl⟩) | (go_at_call 22; refine (implItemOk _ _).mono ?_; rintro e w1 ⟨rfl, rfl⟩))
        go_ret
        exact ⟨rfl, Below.refl _ _⟩
      · by_cases h4 : 60000 < below
        · rw [filterTo_no3 (by omega)]
          go_enter Tryd.func16, Tryd.ntmps16
          go_wp2_with (first | (go_at_call 21; refine (implSumOk _ _).mono ?_; rintro e w1 ⟨rfl, rfl⟩) | (go_at_call 22; refine (implItemOk _ _).mono ?_; rintro e w1 ⟨rfl, rfl⟩))
          go_ret
          exact ⟨rfl, Below.refl _ _⟩
        · have hks : k.size = 16 := by have := isSum_len h1; simpa using this
          have his := isItem_size h2
          have hsz : (k ++ (⟨#[32]⟩ : ByteArray) ++ it).size ≤ 1073741824 := by
            simp only [ByteArray.size_append, hks]
            have : (⟨#[32]⟩ : ByteArray).size = 1 := rfl
            omega
          have HF : Hid (filterTo k.data.toList it.data.toList below = (headOf (k ++ (⟨#[32]⟩ : ByteArray) ++ it).data.toList : Int) * below / 2147483648) := by
            show _ = _
            rw [filterTo_yes h1 h2 (by omega), keyItem_bytes]
          have Hk : Hid (isSum k.data.toList = true) := h1
          have Hi : Hid (isItem it.data.toList = true) := h2
          go_enter Tryd.func16, Tryd.ntmps16
          go_wp2_with (first | (go_at_call 21; refine (implSumOk _ _).mono ?_; rintro e w1 ⟨rfl, rfl⟩) | (go_at_call 22; refine (implItemOk _ _).mono ?_; rintro e w1 ⟨rfl, rfl⟩))
          refine (implSum _ _ hsz HK.out).mono ?_
          rintro e w1 ⟨rfl, b1⟩
          have HH := sumHead_sumB (k ++ (⟨#[32]⟩ : ByteArray) ++ it).data.toList
          have hlt := headOf_lt (k ++ (⟨#[32]⟩ : ByteArray) ++ it).data.toList
          generalize (k ++ (⟨#[32]⟩ : ByteArray) ++ it).data.toList = t at HF HH hlt ⊢
          have Hhd : Hid (sumHead (sumB t) = (headOf t : Int)) := HH
          clear HH hsz
          have hpl := place_lt (headOf t) below hlt (by omega)
          generalize headOf t = h at HF hlt Hhd hpl
          go_wp2_with fail
          refine (implSumHead _ _).mono ?_
          rintro e w2 ⟨rfl, rfl⟩
          rw [show (⟨(sumB t).toArray⟩ : ByteArray).data.toList = sumB t from rfl, Hhd.out]
          go_wp2
          go_ret
          rw [HF.out]
          exact ⟨rfl, b1⟩

end Go.Proofs.YtcaejndpmagfaaaDoor

set_option linter.unusedVariables false
namespace Go.Proofs.YtcaejndpmagfaaaDoor
open Go.RowKit

noncomputable def filterHas (s k it : List UInt8) : Bool :=
  match filterGet s with
  | none => false
  | some l => decide (l ≠ []) && isSum k && isItem it && l.any fun p => decide ((p : Int) = filterTo k it ((l.length : Int) * 37))
theorem filterHas_none {s k it : List UInt8} (h : filterGet s = none) : filterHas s k it = false := by rw [filterHas, h]
theorem filterHas_nil {s k it : List UInt8} (h : filterGet s = some []) : filterHas s k it = false := by rw [filterHas, h]; simp
theorem filterHas_no1 {s k it : List UInt8} (h : isSum k = false) : filterHas s k it = false := by
  rw [filterHas]
  split
  · rfl
  · simp [h]
theorem filterHas_no2 {s k it : List UInt8} (h : isItem it = false) : filterHas s k it = false := by
  rw [filterHas]
  split
  · rfl
  · simp [h]
theorem filterHas_yes {s k it : List UInt8} {l : List Nat} (h : filterGet s = some l) (hl : l ≠ []) (h1 : isSum k = true) (h2 : isItem it = true) : filterHas s k it = l.any fun p => decide ((p : Int) = filterTo k it ((l.length : Int) * 37)) := by
  rw [filterHas, h]
  simp [h1, h2, hl]
theorem any_yes (l : List Nat) (z : Int) (k : Nat) (hk : k < l.length) (h : ((l.getD k 0 : Nat) : Int) = z) : (l.any fun p => decide ((p : Int) = z)) = true := by
  rw [List.any_eq_true]
  refine ⟨l.getD k 0, ?_, by simpa using h⟩
  simp [List.getElem?_eq_getElem hk]
theorem any_no (l : List Nat) (z : Int) (h : ∀ j, j < l.length → ((l.getD j 0 : Nat) : Int) ≠ z) : (l.any fun p => decide ((p : Int) = z)) = false := by
  rw [List.any_eq_false]
  intro x hx
  obtain ⟨i, hi, rfl⟩ := List.mem_iff_getElem.1 hx
  have := h i hi
  rw [List.getD_eq_getElem?_getD, List.getElem?_eq_getElem hi] at this
  simpa using this
theorem filterGet_len2 {o : List UInt8} {l : List Nat} (h : filterGet o = some l) : l.length ≤ 40 ∧ l.length = (varGet o).1 := by
  unfold filterGet at h
  split at h
  · cases h
  · split at h
    · cases h
    · rename_i gaps hr
      unfold placesOf at h
      split at h
      · have e : sumsF 0 gaps = l := by simpa using h
        rw [← e, sumsF_length]
        have := riceGet_some hr
        have h2 := this.1
        simp only [getOk, Bool.and_eq_true, decide_eq_true_eq] at h2
        have h3 := this.2.1
        omega
      · cases h
theorem manyOf2_some {o : List UInt8} {l : List Nat} (h : filterGet o = some l) : manyOf2 o = l.length := by
  rw [manyOf2, h, (filterGet_len2 h).2]
  rfl

set_option maxHeartbeats 1000000 in
set_option maxRecDepth 100000 in
theorem indexInts (g n cap : Nat) (l : List Nat) (z : Int) (w : World) (h : At w g (l.map fun n : Nat => (n : Int))) (hn : n = l.length) (hm : n ≤ 1000) :
    Calls Tryd.prog 42 #[.slice (some ⟨g, 0, none⟩) n cap, .int .i64 z] w fun e w' => ∃ r : Int, e = .returned (.int .i64 r) ∧ decide (0 ≤ r) = (l.any fun p => decide ((p : Int) = z)) ∧ w = w' := by
  have HA : Hid (At w g (l.map fun n : Nat => (n : Int))) := h
  have HN : Hid (n = l.length) := hn
  clear h hn
  go_enter Tryd.func42, Tryd.ntmps42
  go_wp2_with fail
  go_loop [8] (fun i => ∃ k : Nat, k ≤ n ∧ i = .int .i64 (k : Int) ∧ Hid (∀ j, j < k → ((l.getD j 0 : Nat) : Int) ≠ z)) (fun i => n - (intOf i).toNat)
  case atStart => exact ⟨0, by omega, rfl, fun j hj => by omega⟩
  case round =>
    obtain ⟨k, hk, rfl, HT⟩ := hrel
    by_cases hlt : k < n
    · have hkl : k < l.length := by rw [← HN.out]; exact hlt
      have hc := HA.out.2 k (by simpa using hkl)
      have ez : (l.map fun n : Nat => (n : Int)).getD k 0 = ((l.getD k 0 : Nat) : Int) := by
        rw [List.getD_eq_getElem?_getD, List.getElem?_map, List.getElem?_eq_getElem hkl, List.getD_eq_getElem?_getD, List.getElem?_eq_getElem hkl]
        rfl
      rw [ez] at hc
      have HK : Hid (k + 1 ≤ n) := hlt
      have lk : (k : Int) < (n : Int) := by omega
      have lk0 : (0 : Int) ≤ (k : Int) := by omega
      by_cases he : ((l.getD k 0 : Nat) : Int) = z
      · have HY : Hid ((l.any fun p => decide ((p : Int) = z)) = true) := any_yes l z k hkl he
        obtain ⟨x, hx⟩ : ∃ x : Int, x = ((l.getD k 0 : Nat) : Int) := ⟨_, rfl⟩
        rw [← hx] at hc he
        subst he
        clear hx ez hkl
        go_wp2_with fail
        go_ret
        rw [HY.out]
        exact ⟨_, rfl, by simp, rfl⟩
      · have HZ : Hid (((l.getD k 0 : Nat) : Int) ≠ z) := he
        have HT2 : Hid (∀ j, j < k + 1 → ((l.getD j 0 : Nat) : Int) ≠ z) := by
          intro j hj
          rcases Nat.lt_or_ge j k with h' | h'
          · exact HT.out j h'
          · obtain rfl : j = k := by omega
            exact he
        obtain ⟨x, hx⟩ : ∃ x : Int, x = ((l.getD k 0 : Nat) : Int) := ⟨_, rfl⟩
        rw [← hx] at hc he
        have hne : (z == x) = false := by simp; intro e; exact he e.symm
        clear hx he ez hkl
        go_wp2_with fail
        go_round
        case rel => exact ⟨k + 1, HK.out, by go_num, HT2⟩
        case measure => have := HK.out; simp [intOf]; omega
    · have HY : Hid ((l.any fun p => decide ((p : Int) = z)) = false) := any_no l z (fun j hj => HT.out j (by have := HN.out; omega))
      go_wp2_with fail
      go_ret
      rw [HY.out]
      exact ⟨-1, rfl, by decide, rfl⟩

set_option maxHeartbeats 1000000 in
set_option maxRecDepth 100000 in
theorem containsInts (g n cap : Nat) (l : List Nat) (z : Int) (w : World) (h : At w g (l.map fun n : Nat => (n : Int))) (hn : n = l.length) (hm : n ≤ 1000) :
    Calls Tryd.prog 23 #[.slice (some ⟨g, 0, none⟩) n cap, .int .i64 z] w fun e w' => e = .returned (.bool (l.any fun p => decide ((p : Int) = z))) ∧ w = w' := by
  have hix := indexInts g n cap l z w h hn hm
  generalize (l.any fun p => decide ((p : Int) = z)) = b at hix
  clear h hn
  go_enter Tryd.func23, Tryd.ntmps23
  go_wp2_with fail
  refine hix.mono ?_
  rintro e w1 ⟨r, rfl, hr, rfl⟩
  clear hix
  go_wp2_with fail
  go_ret
  exact ⟨by simp [← hr], rfl⟩

end Go.Proofs.YtcaejndpmagfaaaDoor

set_option linter.unusedVariables false
namespace Go.Proofs.YtcaejndpmagfaaaDoor
open Go.RowKit

set_option maxHeartbeats 1000000 in
set_option maxRecDepth 100000 in
theorem implFilterHas (s k it : ByteArray) (w : World) (hs : s.size ≤ maxLen) (hK : RowG w shaK) :
    Calls Tryd.prog 8 #[.string s, .string k, .string it] w fun e w' => e = .returned (.bool (filterHas s.data.toList k.data.toList it.data.toList)) ∧ Below w.heap.size w w' := by
  have hget := implFilterGet s w hs
  have HK : Hid (RowG w shaK) := hK
  clear hK
  cases hfg : filterGet s.data.toList with
  | none =>
    rw [filterHas_none hfg]
    rw [hfg] at hget
    dsimp only [Option.isSome] at hget
    clear hfg
    go_enter Tryd.func8, Tryd.ntmps8
    go_wp2_with (go_at_call 15; refine hget.mono ?_; rintro e w1 ⟨v, rfl, g1, b1⟩; obtain rfl : v = .slice none 0 0 := g1)
    go_ret
    exact ⟨rfl, b1⟩
  | some l =>
    rw [hfg] at hget
    dsimp only [Option.isSome] at hget
    have hlen := filterGet_len2 hfg
    have hl40 := hlen.1
    clear hlen
    have HFG : Hid (filterGet s.data.toList = some l) := hfg
    have hget2 : Calls Tryd.prog 15 #[.string s] w fun e w' => ∃ g c n, e = .returned (.tuple #[.slice (some ⟨g, 0, none⟩) n c, .bool true]) ∧ n = l.length ∧ At w' g (l.map fun n : Nat => (n : Int)) ∧ Below w.heap.size w w' := by
      refine hget.mono ?_
      rintro e w1 ⟨v, rfl, g1, b1⟩
      obtain ⟨g, c, rfl⟩ := g1.1
      exact ⟨g, c, l.length, rfl, rfl, outRow_at g1, b1⟩
    clear hget hfg
    by_cases hl0 : l = []
    · rw [filterHas_nil (by rw [HFG.out, hl0])]
      have HL0 : Hid (l.length = 0) := by rw [hl0]; rfl
      clear hl0
      go_enter Tryd.func8, Tryd.ntmps8
      go_wp2_with (go_at_call 15; refine hget2.mono ?_; rintro e w1 ⟨g, c, n, rfl, hn, hat, b1⟩; rw [HL0.out] at hn; subst hn)
      go_ret
      exact ⟨rfl, b1⟩
    · cases h1 : isSum k.data.toList with
      | false =>
        rw [filterHas_no1 h1]
        have HL0 : Hid (l.length ≠ 0) := fun e => hl0 (List.length_eq_zero_iff.1 e)
        clear hl0
        go_enter Tryd.func8, Tryd.ntmps8
        go_wp2_with first
          | (go_at_call 15; refine hget2.mono ?_; rintro e w1 ⟨g, c, n, rfl, hn, hat, b1⟩; have hne : ((n : Int) == 0) = false := (by have := HL0.out; simp; omega); clear hn)
          | (go_at_call 21; refine (implSumOk _ _).mono ?_; rintro e w2 ⟨rfl, rfl⟩)
        go_ret
        exact ⟨rfl, b1⟩
      | true =>
        cases h2 : isItem it.data.toList with
        | false =>
          rw [filterHas_no2 h2]
          have HL0 : Hid (l.length ≠ 0) := fun e => hl0 (List.length_eq_zero_iff.1 e)
          clear hl0
          go_enter Tryd.func8, Tryd.ntmps8
          go_wp2_with first
            | (go_at_call 15; refine hget2.mono ?_; rintro e w1 ⟨g, c, n, rfl, hn, hat, b1⟩; have hne : ((n : Int) == 0) = false := (by have := HL0.out; simp; omega); clear hn)
            | (go_at_call 21; refine (implSumOk _ _).mono ?_; rintro e w2 ⟨rfl, rfl⟩)
            | (go_at_call 22; refine (implItemOk _ _).mono ?_; rintro e w2 ⟨rfl, rfl⟩)
          go_ret
          exact ⟨rfl, b1⟩
        | true =>
          rw [filterHas_yes HFG.out hl0 h1 h2]
          have HL0 : Hid (l.length ≠ 0) := fun e => hl0 (List.length_eq_zero_iff.1 e)
          obtain ⟨ln, hln⟩ : ∃ ln, ln = l.length := ⟨_, rfl⟩
          rw [← hln] at hl40 HL0 ⊢
          have hto := fun w' h' => implFilterTo k it ((ln : Int) * 37) w' h'
          generalize filterTo k.data.toList it.data.toList ((ln : Int) * 37) = z at hto ⊢
          have hcon := fun g c n w' h' hn' => containsInts g n c l z w' h' hn'
          generalize (l.any fun p => decide ((p : Int) = z)) = b at hcon ⊢
          have HLN : Hid (ln = l.length) := hln
          have hne : ((ln : Int) == 0) = false := by have := HL0.out; simp; omega
          clear hl0 hln
          go_enter Tryd.func8, Tryd.ntmps8
          go_wp2_with first
            | (go_at_call 15; refine hget2.mono ?_; rintro e w1 ⟨g, c, n, rfl, hn, hat, b1⟩; rw [← HLN.out] at hn; subst hn)
            | (go_at_call 21; refine (implSumOk _ _).mono ?_; rintro e w2 ⟨rfl, rfl⟩)
            | (go_at_call 22; refine (implItemOk _ _).mono ?_; rintro e w2 ⟨rfl, rfl⟩)
          have HB1 : Hid (Below w.heap.size w w1) := b1
          have HAT : Hid (At w1 g (l.map fun n : Nat => (n : Int))) := hat
          clear b1 hat
          refine (hto _ (HK.out.below HB1.out HK.out.lt)).mono ?_
          rintro e w2 ⟨rfl, b2⟩
          have HB2 : Hid (Below w.heap.size w w2) := HB1.out.trans (b2.mono HB1.out.size)
          have HAT2 : Hid (At w2 g (l.map fun n : Nat => (n : Int))) := HAT.out.below b2 HAT.out.1
          clear b2 hto
          go_wp2_with fail
          refine (hcon g c n _ HAT2.out HLN.out (by omega)).mono ?_
          rintro e w3 ⟨rfl, rfl⟩
          clear hcon
          go_wp2_with fail
          go_ret
          exact ⟨rfl, HB2.out⟩

end Go.Proofs.YtcaejndpmagfaaaDoor

set_option linter.unusedVariables false
namespace Go.Proofs.YtcaejndpmagfaaaDoor
open Go.RowKit

set_option maxHeartbeats 1000000 in
set_option maxRecDepth 100000 in
theorem specHas (s k it : ByteArray) (w : World) (hs : s.size ≤ 1048576) (h1 : isSum k.data.toList = true) (h2 : isItem it.data.toList = true) :
    Calls Tryd.prog 20 #[.string s, .string k, .string it] w fun e w' => e = .returned (.bool (filterHas s.data.toList k.data.toList it.data.toList)) ∧ Below w.heap.size w w' := by
  have hget := specPlaces s w hs
  cases hfg : filterGet s.data.toList with
  | none =>
    rw [filterHas_none hfg]
    rw [hfg] at hget
    dsimp only [Option.isSome] at hget
    generalize manyOf2 s.data.toList = mo at hget
    clear hfg h1 h2
    go_enter Tryd.func20, Tryd.ntmps20
    go_wp2_with (go_at_call 39; refine hget.mono ?_; rintro e w1 ⟨v, rfl, g1, b1⟩; obtain rfl : v = .slice none 0 0 := g1)
    go_ret
    exact ⟨rfl, b1⟩
  | some l =>
    rw [hfg, manyOf2_some hfg] at hget
    dsimp only [Option.isSome] at hget
    have hl40 := (filterGet_len2 hfg).1
    have hget2 : Calls Tryd.prog 39 #[.string s] w fun e w' => ∃ g c, e = .returned (.tuple #[.slice (some ⟨g, 0, none⟩) l.length c, .int .i64 ((l.length : Nat) : Int), .bool true]) ∧ At w' g (l.map fun n : Nat => (n : Int)) ∧ Below w.heap.size w w' := by
      refine hget.mono ?_
      rintro e w1 ⟨v, rfl, g1, b1⟩
      obtain ⟨g, c, rfl⟩ := g1.1
      exact ⟨g, c, rfl, outRow_at g1, b1⟩
    obtain ⟨ln, hln⟩ : ∃ ln, ln = l.length := ⟨_, rfl⟩
    rw [← hln] at hl40 hget2
    have HLN : Hid (ln = l.length) := hln
    clear hget
    by_cases hl0 : l = []
    · rw [filterHas_nil (by rw [hfg, hl0])]
      have hz : ((ln : Int) == 0) = true := by rw [hln, hl0]; rfl
      clear hl0 hln hfg h1 h2
      go_enter Tryd.func20, Tryd.ntmps20
      go_wp2_with (go_at_call 39; refine hget2.mono ?_; rintro e w1 ⟨g, c, rfl, hat, b1⟩)
      go_ret
      exact ⟨rfl, b1⟩
    · have hz0 : ln ≠ 0 := by rw [hln]; intro e; exact hl0 (List.length_eq_zero_iff.1 e)
      have hz : ((ln : Int) == 0) = false := by simp; omega
      rw [filterHas_yes hfg hl0 h1 h2, ← hln]
      have hto := fun w' => specL2To k it ((ln : Int) * 37) w' h1 h2 (by omega)
      generalize filterTo k.data.toList it.data.toList ((ln : Int) * 37) = z at hto ⊢
      obtain ⟨B, hB⟩ : ∃ B, B = (l.any fun p => decide ((p : Int) = z)) := ⟨_, rfl⟩
      rw [← hB]
      have HBB : Hid (B = (l.any fun p => decide ((p : Int) = z))) := hB
      clear hl0 hln hfg h1 h2 hB
      go_enter Tryd.func20, Tryd.ntmps20
      go_wp2_with (go_at_call 39; refine hget2.mono ?_; rintro e w1 ⟨g, c, rfl, hat, b1⟩)
      have HB1 : Hid (Below w.heap.size w w1) := b1
      have HAT : Hid (At w1 g (l.map fun n : Nat => (n : Int))) := hat
      clear b1 hat hget2
      refine (hto _).mono ?_
      rintro e w2 ⟨rfl, b2⟩
      have HB2 : Hid (Below w.heap.size w w2) := HB1.out.trans (b2.mono HB1.out.size)
      have HAT2 : Hid (At w2 g (l.map fun n : Nat => (n : Int))) := HAT.out.below b2 HAT.out.1
      clear b2 hto
      go_wp2_with fail
      go_loop [11] (fun i => ∃ k : Nat, k ≤ ln ∧ i = .int .i64 (k : Int) ∧ Hid (∀ j, j < k → ((l.getD j 0 : Nat) : Int) ≠ z)) (fun i => ln - (intOf i).toNat)
      case atStart => exact ⟨0, by omega, rfl, fun j hj => by omega⟩
      case round =>
        obtain ⟨k, hk, rfl, HT⟩ := hrel
        by_cases hlt : k < ln
        · have hkl : k < l.length := by rw [← HLN.out]; exact hlt
          have hc := HAT2.out.2 k (by simpa using hkl)
          have ez : (l.map fun n : Nat => (n : Int)).getD k 0 = ((l.getD k 0 : Nat) : Int) := by
            rw [List.getD_eq_getElem?_getD, List.getElem?_map, List.getElem?_eq_getElem hkl, List.getD_eq_getElem?_getD, List.getElem?_eq_getElem hkl]
            rfl
          rw [ez] at hc
          have HK : Hid (k + 1 ≤ ln) := hlt
          have lk : (k : Int) < (ln : Int) := by omega
          have lk0 : (0 : Int) ≤ (k : Int) := by omega
          by_cases he : ((l.getD k 0 : Nat) : Int) = z
          · have HY : Hid (B = true) := by rw [HBB.out]; exact any_yes l z k hkl he
            obtain ⟨x, hx⟩ : ∃ x : Int, x = ((l.getD k 0 : Nat) : Int) := ⟨_, rfl⟩
            rw [← hx] at hc he
            subst he
            clear hx ez hkl
            go_wp2_with fail
            go_ret
            rw [HY.out]
            exact ⟨rfl, HB2.out⟩
          · have HT2 : Hid (∀ j, j < k + 1 → ((l.getD j 0 : Nat) : Int) ≠ z) := by
              intro j hj
              rcases Nat.lt_or_ge j k with h' | h'
              · exact HT.out j h'
              · obtain rfl : j = k := by omega
                exact he
            obtain ⟨x, hx⟩ : ∃ x : Int, x = ((l.getD k 0 : Nat) : Int) := ⟨_, rfl⟩
            rw [← hx] at hc he
            have hne : (x == z) = false := by simp; exact he
            clear hx he ez hkl
            go_wp2_with fail
            go_round
            case rel => exact ⟨k + 1, HK.out, by go_num, HT2⟩
            case measure => have := HK.out; simp [intOf]; omega
        · have HY : Hid (B = false) := by rw [HBB.out]; exact any_no l z (fun j hj => HT.out j (by have := HLN.out; omega))
          go_wp2_with fail
          go_ret
          rw [HY.out]
          exact ⟨rfl, HB2.out⟩

set_option maxHeartbeats 1000000 in
set_option maxRecDepth 100000 in
theorem specFilterHas (s k it : ByteArray) (w : World) (hs : s.size ≤ 1048576) (hk : k.size ≤ maxLen) (hi : it.size ≤ maxLen) :
    Calls Tryd.prog 7 #[.string s, .string k, .string it] w fun e w' => e = .returned (.bool (filterHas s.data.toList k.data.toList it.data.toList)) ∧ Below w.heap.size w w' := by
  cases h1 : isSum k.data.toList with
  | false =>
    rw [filterHas_no1 h1]
    go_enter Tryd.func7, Tryd.ntmps7
    go_wp2_with (go_at_call 18; refine (specIsSum _ _ hk).mono ?_; rintro e w1 ⟨rfl, rfl⟩)
    go_ret
    exact ⟨rfl, Below.refl _ _⟩
  | true =>
    cases h2 : isItem it.data.toList with
    | false =>
      rw [filterHas_no2 h2]
      go_enter Tryd.func7, Tryd.ntmps7
      go_wp2_with (first | (go_at_call 18; refine (specIsSum _ _ hk).mono ?_; rintro e w1 ⟨rfl, rfl⟩) | (go_at_call 19; refine (specItemOk _ _ hi).mono ?_; rintro e w1 ⟨rfl, rfl⟩))
      go_ret
      exact ⟨rfl, Below.refl _ _⟩
    | true =>
      have hh := fun w' => specHas s k it w' hs h1 h2
      generalize filterHas s.data.toList k.data.toList it.data.toList = B at hh ⊢
      go_enter Tryd.func7, Tryd.ntmps7
      go_wp2_with (first | (go_at_call 18; refine (specIsSum _ _ hk).mono ?_; rintro e w1 ⟨rfl, rfl⟩) | (go_at_call 19; refine (specItemOk _ _ hi).mono ?_; rintro e w1 ⟨rfl, rfl⟩) | (go_at_call 20; refine (hh _).mono ?_; rintro e w1 ⟨rfl, b1⟩))
      go_ret
      exact ⟨rfl, b1⟩

end Go.Proofs.YtcaejndpmagfaaaDoor

set_option linter.unusedVariables false
namespace Go.Proofs.YtcaejndpmagfaaaDoor
open Go.RowKit

noncomputable def filterAny (s k : List UInt8) (ss : List ByteArray) : Bool := itemsOkB ss && ss.any fun it => filterHas s k it.data.toList
theorem filterAny_no {s k : List UInt8} {ss : List ByteArray} (h : itemsOkB ss = false) : filterAny s k ss = false := by rw [filterAny, h]; rfl
theorem filterAny_no1 {s k : List UInt8} {ss : List ByteArray} (h : isSum k = false) : filterAny s k ss = false := by
  rw [filterAny]
  have : (ss.any fun it => filterHas s k it.data.toList) = false := by
    rw [List.any_eq_false]
    intro x _
    rw [filterHas_no1 h]
    decide
  rw [this, Bool.and_false]
theorem filterAny_yes {s k : List UInt8} {ss : List ByteArray} (h : itemsOkB ss = true) (i : Nat) (hi : i < ss.length) (hh : filterHas s k (ss.getD i ByteArray.empty).data.toList = true) : filterAny s k ss = true := by
  rw [filterAny, h, Bool.true_and, List.any_eq_true]
  refine ⟨ss.getD i ByteArray.empty, ?_, hh⟩
  simp [List.getElem?_eq_getElem hi]
theorem filterAny_none {s k : List UInt8} {ss : List ByteArray} (hh : ∀ i, i < ss.length → filterHas s k (ss.getD i ByteArray.empty).data.toList = false) : filterAny s k ss = false := by
  have : (ss.any fun it => filterHas s k it.data.toList) = false := by
    rw [List.any_eq_false]
    intro x hx
    obtain ⟨i, hi, rfl⟩ := List.mem_iff_getElem.1 hx
    have := hh i hi
    rw [List.getD_eq_getElem?_getD, List.getElem?_eq_getElem hi] at this
    simpa using this
  rw [filterAny, this, Bool.and_false]

set_option maxHeartbeats 1000000 in
set_option maxRecDepth 100000 in
theorem implFilterAny (g n cap : Nat) (ss : List ByteArray) (s k : ByteArray) (w : World) (h : AtS w g ss) (hn : n = ss.length) (hs : s.size ≤ maxLen) (hK : RowG w shaK) :
    Calls Tryd.prog 12 #[.string s, .string k, .slice (some ⟨g, 0, none⟩) n cap] w fun e w' => e = .returned (.bool (filterAny s.data.toList k.data.toList ss)) ∧ Below w.heap.size w w' := by
  have hit := implItemsOk g n cap ss w h hn
  cases hok : itemsOkB ss with
  | false =>
    rw [hok] at hit
    rw [filterAny_no hok]
    clear hok h hn hK
    go_enter Tryd.func12, Tryd.ntmps12
    go_wp2_with (go_at_call 25; refine hit.mono ?_; rintro e w1 ⟨rfl, rfl⟩)
    go_ret
    exact ⟨rfl, Below.refl _ _⟩
  | true =>
    rw [hok] at hit
    have hn40 : n ≤ 40 := by rw [hn]; exact itemsOk_len hok
    have HA : Hid (AtS w g ss) := h
    have HN : Hid (n = ss.length) := hn
    have HKG : Hid (RowG w shaK) := hK
    have HOK : Hid (itemsOkB ss = true) := hok
    obtain ⟨B, hB⟩ : ∃ B, B = filterAny s.data.toList k.data.toList ss := ⟨_, rfl⟩
    rw [← hB]
    have HBB : Hid (B = filterAny s.data.toList k.data.toList ss) := hB
    clear hok h hn hK hB
    go_enter Tryd.func12, Tryd.ntmps12
    go_wp2_with (go_at_call 25; refine hit.mono ?_; rintro e w1 ⟨rfl, rfl⟩)
    clear hit
    go_loopw [14] (fun i wr => ∃ j : Nat, j ≤ n ∧ i = .int .i64 (j : Int) ∧ Hid (∀ q, q < j → filterHas s.data.toList k.data.toList (ss.getD q ByteArray.empty).data.toList = false) ∧ Hid (Below w.heap.size w wr)) (fun i _ => n - (intOf i).toNat)
    case atStart => exact ⟨0, by omega, rfl, fun q hq => by omega, Below.refl _ _⟩
    case round =>
      obtain ⟨j, hj, rfl, HT, HB⟩ := hrel
      by_cases hlt : j < n
      · have hjl : j < ss.length := by rw [← HN.out]; exact hlt
        have hc : wr.cell? ⟨g, j, none⟩ = some (.string (ss.getD j ByteArray.empty)) := by
          rw [HB.out.cell (p := ⟨g, j, none⟩) HA.out.1]
          exact HA.out.2 j hjl
        have hhas := implFilterHas s k (ss.getD j ByteArray.empty) wr hs (HKG.out.below HB.out HKG.out.lt)
        have HY : Hid (filterHas s.data.toList k.data.toList (ss.getD j ByteArray.empty).data.toList = true → B = true) := fun hh => by rw [HBB.out]; exact filterAny_yes HOK.out j hjl hh
        have HT2 : Hid (filterHas s.data.toList k.data.toList (ss.getD j ByteArray.empty).data.toList = false → ∀ q, q < j + 1 → filterHas s.data.toList k.data.toList (ss.getD q ByteArray.empty).data.toList = false) := by
          intro hh q hq
          rcases Nat.lt_or_ge q j with h' | h'
          · exact HT.out q h'
          · obtain rfl : q = j := by omega
            exact hh
        generalize filterHas s.data.toList k.data.toList (ss.getD j ByteArray.empty).data.toList = fh at hhas HY HT2
        generalize ss.getD j ByteArray.empty = it at hc hhas
        have HJ : Hid (j + 1 ≤ n) := hlt
        have lj : (j : Int) < (n : Int) := by omega
        have lj0 : (0 : Int) ≤ (j : Int) := by omega
        clear hjl
        cases fh with
        | true =>
          have HY2 : Hid (B = true) := HY.out rfl
          clear HY HT2
          go_wp2_with (go_at_call 8; refine hhas.mono ?_; rintro e w1 ⟨rfl, b1⟩)
          go_ret
          rw [HY2.out]
          exact ⟨rfl, HB.out.trans (b1.mono HB.out.size)⟩
        | false =>
          have HT3 : Hid (∀ q, q < j + 1 → filterHas s.data.toList k.data.toList (ss.getD q ByteArray.empty).data.toList = false) := HT2.out rfl
          clear HY HT2
          go_wp2_with (go_at_call 8; refine hhas.mono ?_; rintro e w1 ⟨rfl, b1⟩)
          have HB1 : Hid (Below w.heap.size w w1) := HB.out.trans (b1.mono HB.out.size)
          clear b1
          go_roundw
          case rel => exact ⟨j + 1, HJ.out, by go_num, HT3, HB1⟩
          case measure => have := HJ.out; simp [intOf]; omega
      · have HY : Hid (B = false) := by rw [HBB.out]; exact filterAny_none (fun i hi => HT.out i (by have := HN.out; omega))
        go_wp2_with fail
        go_ret
        rw [HY.out]
        exact ⟨rfl, HB.out⟩

set_option maxHeartbeats 1000000 in
set_option maxRecDepth 100000 in
theorem specFilterAny (g n cap : Nat) (ss : List ByteArray) (s k : ByteArray) (w : World) (h : AtS w g ss) (hn : n = ss.length) (hm : n ≤ 1073741824) (hz : ∀ i, i < ss.length → (ss.getD i ByteArray.empty).size ≤ maxLen) (hs : s.size ≤ 1048576) (hk : k.size ≤ maxLen) :
    Calls Tryd.prog 10 #[.string s, .string k, .slice (some ⟨g, 0, none⟩) n cap] w fun e w' => e = .returned (.bool (filterAny s.data.toList k.data.toList ss)) ∧ Below w.heap.size w w' := by
  have hit := specItems g n cap ss w h hn hm hz
  cases h1 : isSum k.data.toList with
  | false =>
    rw [filterAny_no1 h1]
    clear h hn hit
    go_enter Tryd.func10, Tryd.ntmps10
    go_wp2_with (go_at_call 18; refine (specIsSum _ _ hk).mono ?_; rintro e w1 ⟨rfl, rfl⟩)
    go_ret
    exact ⟨rfl, Below.refl _ _⟩
  | true =>
  cases hok : itemsOkB ss with
  | false =>
    rw [hok] at hit
    rw [filterAny_no hok]
    clear hok h hn
    go_enter Tryd.func10, Tryd.ntmps10
    go_wp2_with first
      | (go_at_call 18; refine (specIsSum _ _ hk).mono ?_; rintro e w1 ⟨rfl, rfl⟩)
      | (go_at_call 24; refine hit.mono ?_; rintro e w1 ⟨rfl, rfl⟩)
    go_ret
    exact ⟨rfl, Below.refl _ _⟩
  | true =>
    rw [hok] at hit
    have hn40 : n ≤ 40 := by rw [hn]; exact itemsOk_len hok
    have HA : Hid (AtS w g ss) := h
    have HN : Hid (n = ss.length) := hn
    have HOK : Hid (itemsOkB ss = true) := hok
    have H1 : Hid (isSum k.data.toList = true) := h1
    obtain ⟨B, hB⟩ : ∃ B, B = filterAny s.data.toList k.data.toList ss := ⟨_, rfl⟩
    rw [← hB]
    have HBB : Hid (B = filterAny s.data.toList k.data.toList ss) := hB
    clear hok h hn hB hz
    go_enter Tryd.func10, Tryd.ntmps10
    go_wp2_with first
      | (go_at_call 18; refine (specIsSum _ _ hk).mono ?_; rintro e w1 ⟨rfl, rfl⟩)
      | (go_at_call 24; refine hit.mono ?_; rintro e w1 ⟨rfl, rfl⟩)
    clear hit
    go_loopw [7] (fun i wr => ∃ j : Nat, j ≤ n ∧ i = .int .i64 (j : Int) ∧ Hid (∀ q, q < j → filterHas s.data.toList k.data.toList (ss.getD q ByteArray.empty).data.toList = false) ∧ Hid (Below w.heap.size w wr)) (fun i _ => n - (intOf i).toNat)
    case atStart => exact ⟨0, by omega, rfl, fun q hq => by omega, Below.refl _ _⟩
    case round =>
      obtain ⟨j, hj, rfl, HT, HB⟩ := hrel
      by_cases hlt : j < n
      · have hjl : j < ss.length := by rw [← HN.out]; exact hlt
        have hc : wr.cell? ⟨g, j, none⟩ = some (.string (ss.getD j ByteArray.empty)) := by
          rw [HB.out.cell (p := ⟨g, j, none⟩) HA.out.1]
          exact HA.out.2 j hjl
        have hhas := specHas s k (ss.getD j ByteArray.empty) wr hs H1.out (itemsOk_at HOK.out j hjl)
        have HY : Hid (filterHas s.data.toList k.data.toList (ss.getD j ByteArray.empty).data.toList = true → B = true) := fun hh => by rw [HBB.out]; exact filterAny_yes HOK.out j hjl hh
        have HT2 : Hid (filterHas s.data.toList k.data.toList (ss.getD j ByteArray.empty).data.toList = false → ∀ q, q < j + 1 → filterHas s.data.toList k.data.toList (ss.getD q ByteArray.empty).data.toList = false) := by
          intro hh q hq
          rcases Nat.lt_or_ge q j with h' | h'
          · exact HT.out q h'
          · obtain rfl : q = j := by omega
            exact hh
        generalize filterHas s.data.toList k.data.toList (ss.getD j ByteArray.empty).data.toList = fh at hhas HY HT2
        generalize ss.getD j ByteArray.empty = it at hc hhas
        have HJ : Hid (j + 1 ≤ n) := hlt
        have lj : (j : Int) < (n : Int) := by omega
        have lj0 : (0 : Int) ≤ (j : Int) := by omega
        clear hjl
        cases fh with
        | true =>
          have HY2 : Hid (B = true) := HY.out rfl
          clear HY HT2
          go_wp2_with (go_at_call 20; refine hhas.mono ?_; rintro e w1 ⟨rfl, b1⟩)
          go_ret
          rw [HY2.out]
          exact ⟨rfl, HB.out.trans (b1.mono HB.out.size)⟩
        | false =>
          have HT3 : Hid (∀ q, q < j + 1 → filterHas s.data.toList k.data.toList (ss.getD q ByteArray.empty).data.toList = false) := HT2.out rfl
          clear HY HT2
          go_wp2_with (go_at_call 20; refine hhas.mono ?_; rintro e w1 ⟨rfl, b1⟩)
          have HB1 : Hid (Below w.heap.size w w1) := HB.out.trans (b1.mono HB.out.size)
          clear b1
          go_roundw
          case rel => exact ⟨j + 1, HJ.out, by go_num, HT3, HB1⟩
          case measure => have := HJ.out; simp [intOf]; omega
      · have HY : Hid (B = false) := by rw [HBB.out]; exact filterAny_none (fun i hi => HT.out i (by have := HN.out; omega))
        go_wp2_with fail
        go_ret
        rw [HY.out]
        exact ⟨rfl, HB.out⟩

end Go.Proofs.YtcaejndpmagfaaaDoor

set_option linter.unusedVariables false
namespace Go.Proofs.YtcaejndpmagfaaaDoor
open Go.RowKit

theorem any_take_snoc {s k : List UInt8} {ss : List ByteArray} (j : Nat) (hj : j < ss.length) : ((ss.take (j + 1)).any fun it => filterHas s k it.data.toList) = (((ss.take j).any fun it => filterHas s k it.data.toList) || filterHas s k (ss.getD j ByteArray.empty).data.toList) := by
  have e : ss.take (j + 1) = ss.take j ++ [ss.getD j ByteArray.empty] := by
    rw [List.take_add_one, List.getElem?_eq_getElem hj, List.getD_eq_getElem?_getD, List.getElem?_eq_getElem hj]
    rfl
  rw [e, List.any_append, List.any_cons, List.any_nil, Bool.or_false]

set_option maxHeartbeats 1000000 in
set_option maxRecDepth 100000 in
theorem walk_FnFilterAny (a : Option Addr) (len cap : Nat) (zs : List Int) (w : World) (h : IsRow .u8 w a len cap zs) (hK : RowG w shaK) :
    Calls Tryd.prog 6 #[.slice a len cap] w fun e w' => e = .returned (.bool true) ∧ Below w.heap.size w w' := by
  have HK : Hid (RowG w shaK) := hK
  clear hK
  by_cases hl : (1048576 : Int) < (len : Int)
  · go_enter Tryd.func6, Tryd.ntmps6
    go_wp2
    go_ret
    exact ⟨rfl, Below.refl _ _⟩
  go_enter Tryd.func6, Tryd.ntmps6
  go_wp2_with fail
  refine (drawFilterAny a len cap zs _ h).mono ?_
  rintro e w1 ⟨s, key, g, n, c, ss, rfl, hs, hk, hat, hn, hn8, hit, b1⟩
  have HAT : Hid (AtS w1 g ss) := hat
  have HN : Hid (n = ss.length) := hn
  have HB1 : Hid (Below w.heap.size w w1) := b1
  have HOK : Hid (itemsOkB ss = true) := itemsOk_yes (by rw [← hn]; omega) hit
  have HMX : Hid (s.size ≤ maxLen ∧ key.size ≤ maxLen) := by unfold maxLen; exact ⟨by omega, by omega⟩
  have HZ : Hid (∀ i, i < ss.length → (ss.getD i ByteArray.empty).size ≤ maxLen) := by
    intro i hi
    have := isItem_size (hit i hi)
    unfold maxLen
    omega
  obtain ⟨B, hB⟩ : ∃ B, B = filterAny s.data.toList key.data.toList ss := ⟨_, rfl⟩
  have HBB : Hid (B = ss.any fun it => filterHas s.data.toList key.data.toList it.data.toList) := by
    show _ = _
    rw [hB, filterAny, HOK.out, Bool.true_and]
  have hI := implFilterAny g n c ss s key w1 HAT.out HN.out HMX.out.1 (HK.out.below HB1.out HK.out.lt)
  have HSP : Hid (∀ w', AtS w' g ss → Calls Tryd.prog 10 #[.string s, .string key, .slice (some ⟨g, 0, none⟩) n c] w' fun e w'' => e = .returned (.bool B) ∧ Below w'.heap.size w' w'') := by
    intro w' h'
    have := specFilterAny g n c ss s key w' h' HN.out (by omega) HZ.out (by omega) HMX.out.2
    rw [← hB] at this
    exact this
  rw [← hB] at hI
  clear h hl hat hn b1 hit hB
  go_wp2_with fail
  refine hI.mono ?_
  rintro e w2 ⟨rfl, b2⟩
  have HAT2 : Hid (AtS w2 g ss) := HAT.out.below b2 HAT.out.1
  have HB2 : Hid (Below w.heap.size w w2) := HB1.out.trans (b2.mono HB1.out.size)
  clear hI b2
  go_wp2_with fail
  refine (HSP.out _ HAT2.out).mono ?_
  rintro e w3 ⟨rfl, b3⟩
  have HAT3 : Hid (AtS w3 g ss) := HAT2.out.below b3 HAT2.out.1
  have HB3 : Hid (Below w.heap.size w w3) := HB2.out.trans (b3.mono HB2.out.size)
  clear b3
  go_wp2_with fail
  go_loopw [7, 8] (fun b i wr => ∃ (j : Nat) (t : Bool), j ≤ n ∧ i = .int .i64 (j : Int) ∧ b = .bool t ∧ Hid (t = (ss.take j).any fun it => filterHas s.data.toList key.data.toList it.data.toList) ∧ Hid (AtS wr g ss) ∧ Hid (Below w.heap.size w wr)) (fun _ i _ => n - (intOf i).toNat)
  case atStart => exact ⟨0, false, by omega, rfl, rfl, rfl, HAT3, HB3⟩
  case round =>
    clear HAT3 HB3 HAT2 HB2 HAT HB1
    obtain ⟨j, t, hj, rfl, rfl, HT, HAT, HB⟩ := hrel
    by_cases hlt : j < n
    · have hjl : j < ss.length := by rw [← HN.out]; exact hlt
      have HJ : Hid (j + 1 ≤ n) := hlt
      have hsn := any_take_snoc (s := s.data.toList) (k := key.data.toList) j hjl
      have lj : (j : Int) < (n : Int) := by omega
      have lj0 : (0 : Int) ≤ (j : Int) := by omega
      cases t with
      | true =>
        have HT2 : Hid (true = (ss.take (j + 1)).any fun it => filterHas s.data.toList key.data.toList it.data.toList) := by
          show _ = _
          rw [hsn, ← HT.out]
          rfl
        clear hsn hjl
        go_wp2_with fail
        go_roundw
        case rel => exact ⟨j + 1, true, HJ.out, by go_num, rfl, HT2, HAT, HB⟩
        case measure => have := HJ.out; simp [intOf]; omega
      | false =>
        have hc := HAT.out.2 j hjl
        have hhas := implFilterHas s key (ss.getD j ByteArray.empty) wr HMX.out.1 (HK.out.below HB.out HK.out.lt)
        have HT2 : Hid (filterHas s.data.toList key.data.toList (ss.getD j ByteArray.empty).data.toList = (ss.take (j + 1)).any fun it => filterHas s.data.toList key.data.toList it.data.toList) := by
          show _ = _
          rw [hsn, ← HT.out]
          rfl
        generalize filterHas s.data.toList key.data.toList (ss.getD j ByteArray.empty).data.toList = fh at hhas HT2
        generalize ss.getD j ByteArray.empty = it at hc hhas
        clear hsn hjl
        go_wp2_with (go_at_call 8; refine hhas.mono ?_; rintro e w4 ⟨rfl, b4⟩)
        have HAT4 : Hid (AtS w4 g ss) := HAT.out.below b4 HAT.out.1
        have HB4 : Hid (Below w.heap.size w w4) := HB.out.trans (b4.mono HB.out.size)
        clear b4
        go_roundw
        case rel => exact ⟨j + 1, fh, HJ.out, by go_num, rfl, HT2, HAT4, HB4⟩
        case measure => have := HJ.out; simp [intOf]; omega
    · have HE : Hid (B = t) := by
        show _ = _
        rw [HBB.out, HT.out, List.take_of_length_le (by rw [← HN.out]; omega)]
      have hbt : (B == t) = true := by rw [HE.out]; simp
      go_wp2_with fail
      go_ret
      exact ⟨by first | rfl | simp [HE.out], HB.out⟩

end Go.Proofs.YtcaejndpmagfaaaDoor

namespace Go.Proofs.YtcaejndpmagfaaaDoor
open Go.ChangeShapes Go.WideShapes Go.ChangeAt Go.RowKit
open Go.ChangeMaps (open_string shut_string)
set_option linter.unusedVariables false

theorem own_fnFilterAny : ownKnob Tryd.prog.godebug = none := by kernel_rfl
theorem laid_fnFilterAny : laidOutB Tryd.prog = true := by kernel_rfl
theorem table_fnFilterAny {W : World} (h : laidMetH Tryd.prog Rows.fnFilterAnyRow.laid W) : RowG W shaK := rowG_of_laid h

theorem met_fnFilterAny (os : Os) : laidMet Tryd.prog Rows.fnFilterAnyRow.laid ((laidWorld os).forCall (fun _ _ => 0) ⟨#[], #[.slice none 0 0], []⟩).memory :=
  laidMet_of_run' 8 (by kernel_rfl) (by kernel_rfl)
theorem reads_fnFilterAny (os : Os) {H : Type} (enc : TypeId × Value → H) : ∃ places, DataW.whole enc Tryd.prog ((laidWorld os).forCall (fun _ _ => 0) ⟨#[], #[.slice none 0 0], []⟩).memory Tryd.f6.params.toList Rows.fnFilterAnySpec.vars false (#[.slice none 0 0] : Array Value).toList 8 = some ([.nil], [Rows.laid_loop_example_cordillera_impl_sumRounds], places) :=
  ⟨MemPlace.row ⟨0, 0, none⟩ 64, by kernel_rfl⟩

set_option maxRecDepth 100000 in
theorem lifted_fnFilterAny (os : Os) (started : os.Started) (H : Type) (enc : TypeId × Value → H) (F : Stop.Interp) :
    ReturnsInHanded {} Tryd.checked os 6 .any ((OpenSpec.ofChange Rows.fnFilterAnySpec).preRow enc Tryd.prog Tryd.f6 Rows.fnFilterAnyRow.domain false Rows.fnFilterAnyRow.laid) (((OpenSpec.ofChange Rows.fnFilterAnySpec).at F).post enc Tryd.prog Tryd.f6 false true false false) := by
  obtain ⟨places, hx⟩ := reads_fnFilterAny os enc
  refine returnsInHanded_of_row (C := Tryd.checked) (s := OpenSpec.ofChange Rows.fnFilterAnySpec) own_fnFilterAny started (by kernel_rfl) Tryd.func6
    (witness_row_at (enc := enc) (C := Tryd.checked) false (laidWorld os) #[.slice none 0 0] rfl (by kernel_rfl) (by kernel_rfl) (by kernel_rfl)
      (OpenSpec.preRow_of_cond 8 hx (by kernel_rfl) (fun k hk => by cases hk) (by kernel_rfl) (met_fnFilterAny os))) ?_
  intro W base args ds gs before hval0 hW _ _ _ hL _ _
  have hval : ∀ (j : Nat) t v, Tryd.f6.params[j]? = some t → args[j]? = some v → Value.okWide Tryd.prog W .any base t v := hval0
  have hW' := hW
  obtain ⟨p, q, hA0, hV, rfl, hfz, hnd⟩ := hW
  have hA : DataW.TrodAll enc Tryd.prog W 0 (fun _ => true) true Tryd.f6.params.toList args.toList ds p := hA0
  rw [Tryd.params6] at hA hval
  obtain ⟨v0, vs0, d0, ds0, p0, q0, hargs, rfl, rfl, h0, r0⟩ := trodAll_cons hA
  obtain ⟨rfl, rfl, rfl⟩ := trodAll_nil r0
  obtain rfl : args = #[v0] := by cases args; simp_all
  obtain ⟨gv, tv, cv, fv, dv, pv, rfl, hgv, htv, hvv, hdv, rfl⟩ := trodVars_one hV
  obtain ⟨a0, len0, cap0, rfl⟩ := okWide_slice Tryd.underlying28 (hval 0 28 v0 rfl rfl)
  have k0 := h0
  have lt0 : ∀ x ∈ p0, x.block < W.heap.size := by obtain ⟨m, hm⟩ := k0; exact DataW.trod_lt m _ _ _ hm
  obtain ⟨z0, w0⟩ : ∃ zs, IsRow .u8 W a0 len0 cap0 zs := by
    obtain ⟨fuel, hf⟩ := h0
    rcases open_ints Tryd.underlying28 Tryd.underlying5 (by kernel_rfl) hf with ⟨hcs, _⟩ | ⟨x, l, c, zs, hcs, _, hl, hm, hz, _, hcell, hwz⟩
    · simp [Value.cells] at hcs
      obtain ⟨rfl, rfl, rfl⟩ := hcs
      exact ⟨[], .inl ⟨rfl, rfl, rfl, rfl⟩⟩
    · simp [Value.cells] at hcs
      obtain ⟨rfl, rfl, rfl⟩ := hcs
      exact ⟨zs, .inr ⟨_, rfl, hl, hm, by simpa using hz, hcell, hwz⟩⟩
  clear hA0 hval0
  refine (walk_FnFilterAny a0 len0 cap0 z0 W w0 (table_fnFilterAny hL)).mono fun e W' ⟨he, bel⟩ => ?_
  subst he
  obtain ⟨pv', hpv⟩ := varsBack laid_fnFilterAny hgv htv hvv hdv bel
  exact ⟨_, rfl, _, _, _, [], _, pv', hW', trodAll_mk1 (shut_bool Tryd.underlying4 _), (trodAll_cons_mk (Below.trod laid_fnFilterAny (by kernel_rfl) (of_decide_eq_true (by kernel_rfl)) k0 bel lt0) trodAll_mk0), hpv, bel.frame _, fun h => by cases h⟩

theorem fnFilterAny_said : Rows.FnFilterAnySaid :=
  OpenClaim.holds_of_cond 6 Tryd.f6 rfl rfl rfl rfl rfl rfl rfl ⟨rfl, rfl, rfl, rfl, rfl⟩ rfl rfl rfl rfl rfl (by kernel_rfl) Tryd.func6 (by kernel_rfl)
    (of_decide_eq_true (by kernel_rfl)) (by unfold Func.isWrapper; first | (rw [if_pos (by decide +kernel)]; kernel_rfl) | (rw [if_neg (by decide +kernel)]; exact ⟨rfl, rfl⟩))
    (fun os started H enc _ F => by rw [OpenClaim.pre_eq_preRow]; exact lifted_fnFilterAny os started H enc F)
theorem plain_fnFilterAny (f : FuncId) (fn : Func) (hf : Tryd.pinned.checked.prog.funcNamed "loop.example/cordillera/laws.FnFilterAny" = some f) (hfn : Tryd.pinned.checked.prog.funcs[f]? = some fn) :
    false = Tryd.pinned.checked.prog.looks [] ∧ ∀ (j : Nat) t, fn.params[j]? = some t → Tryd.pinned.checked.prog.wantsStandIn t = false := by
  obtain rfl : f = 6 := Option.some.inj ((show Tryd.prog.funcNamed "loop.example/cordillera/laws.FnFilterAny" = some 6 by kernel_rfl).symm.trans hf) |>.symm
  obtain rfl : fn = Tryd.f6 := (Option.some.inj (Tryd.func6.symm.trans hfn)).symm
  refine ⟨by kernel_rfl, fun j t ht => ?_⟩
  rw [Tryd.params6] at ht
  have hall : ∀ t ∈ (#[28] : Array TypeId), Tryd.prog.wantsStandIn t = false := by
    intro t ht
    simp only [List.mem_toArray, List.mem_cons, List.not_mem_nil, or_false] at ht
    subst ht; kernel_rfl
  exact hall t (Array.mem_of_getElem? ht)
theorem fnFilterAny_holds : Rows.FnFilterAnyCardSaid :=
  Claim7.holds_tied_plain_at .later [] _ _ _ _ fnFilterAny_said (fun _ h => by cases h) (by kernel_rfl) (fun _ h => by cases h) fnFilterAny_row_tie rfl ⟨rfl, rfl⟩ (by kernel_rfl) rfl plain_fnFilterAny (by kernel_rfl)
#print axioms fnFilterAny_holds
end Go.Proofs.YtcaejndpmagfaaaDoor

