/-
  The specification's sum of a text, whole.
-/
import Derived.Test.YtjeldedjhlicmaaDoorShaS4
set_option linter.unusedVariables false
namespace Go.Proofs.YtjeldedjhlicmaaDoor
open Go.RowKit

theorem padLen_mod (n : Nat) : padLen n % 64 = 0 := by unfold padLen; omega
theorem RowN.nums {T : TypeId} {w : World} {g m : Nat} {l : List Nat} (h : RowN T w g l) (hm : m + 64 ≤ l.length) : Nums w g m ((l.drop m).take 64) := by
  intro i hi
  have hi64 : i < 64 := by simp at hi; omega
  rw [h.cell (m + i) (by omega)]
  have e : ((l.drop m).take 64).getD i 0 = l.getD (m + i) 0 := by
    simp [hi64]
  rw [e]

set_option maxHeartbeats 1000000 in
set_option maxRecDepth 100000 in
theorem specSha (s : ByteArray) (w : World) (hs : s.size ≤ 1073741824) :
    Calls Tryd.prog 93 #[.string s] w fun e w' => ∃ g, e = .returned (.slice (some ⟨g, 0, none⟩) 8 8) ∧ RowN 3 w' g (sha s.data.toList).toL ∧ Below w.heap.size w w' := by
  go_enter Tryd.func93, Tryd.ntmps93
  go_wp2_with fail
  refine (specConsts _).mono ?_
  rintro e w1 ⟨rfl, hh1, hk1, b1⟩
  have hlt1 := hk1.lt
  go_wp2_with fail
  refine (specPad s _ hs).mono ?_
  rintro e w2 ⟨rfl, hp2, b2⟩
  have b12 := b1.trans (b2.mono b1.size)
  have hh2 := hh1.below b2 (by omega)
  have hk2 := hk1.below b2 hlt1
  obtain ⟨gb, hgb⟩ : ∃ gb, gb = w1.heap.size := ⟨_, rfl⟩
  rw [← hgb] at hp2 ⊢
  obtain ⟨gk, hgk⟩ : ∃ gk, gk = w.heap.size + 1 := ⟨_, rfl⟩
  rw [← hgk] at hk2 ⊢
  have hlen := padN_length s.data.toList
  rw [show s.data.toList.length = s.size from by simp] at hlen
  have hpl := padN_lt s.data.toList
  have HSH : Hid (sha s.data.toList = mixTo (padN s.data.toList) (padLen s.size / 64)) := by
    show _ = _
    rw [sha, show s.data.toList.length = s.size from by simp]
  generalize padN s.data.toList = P at hp2 hlen hpl HSH
  obtain ⟨L, hL⟩ : ∃ L, L = padLen s.size := ⟨_, rfl⟩
  have hL2 : L ≤ s.size + 72 := by rw [hL]; unfold padLen; omega
  have HLm : Hid (L % 64 = 0) := by show _ = _; rw [hL]; exact padLen_mod _
  rw [← hL] at hlen HSH ⊢
  have HL : Hid (P.length = L) := hlen
  clear hlen hL hgb hgk hh1 hk1 b1 b2 hlt1
  go_wp2
  go_loopw [3, 6] (fun h i wr => ∃ (j m gh : Nat), m ≤ L ∧ i = .int .i64 m ∧ Hid (m = 64 * j) ∧ h = .slice (some ⟨gh, 0, none⟩) 8 8 ∧ RowN 3 wr gh (mixTo P j).toL ∧ RowN 3 wr gk shaK ∧ RowN 3 wr gb P ∧ Below w.heap.size w wr) (fun _ i _ => L - (intOf i).toNat)
  case atStart => exact ⟨0, 0, w.heap.size, by omega, rfl, rfl, rfl, hh2, hk2, hp2, b12⟩
  case round =>
    clear hh2 hk2 hp2 b12
    obtain ⟨j, m, gh, hm, rfl, HM, rfl, hh, hk, hp, hbw⟩ := hrel
    have hm64 : m < L → m + 64 ≤ L := by have h1 := HLm.out; have h2 := HM.out; omega
    by_cases hlt : m < L
    · have hm2 := hm64 hlt
      have hnum := hp.nums (m := m) (by rw [HL.out]; exact hm2)
      have hgb := hp.lt
      have hgh := hh.lt
      have hgk := hk.lt
      have hsl : ((P.drop m).take 64).length = 64 := by simp [HL.out]; omega
      have hsb : ∀ x ∈ (P.drop m).take 64, x < 256 := fun x hx => hpl x (List.mem_of_mem_drop (List.mem_of_mem_take hx))
      have HNX : Hid (mixTo P (j + 1) = mix shaK (mixTo P j) ((P.drop m).take 64)) := by show _ = _; rw [mixTo, ← HM.out]
      have HB : Hid (Below w.heap.size w wr) := hbw
      have hwsz := hbw.size
      generalize (P.drop m).take 64 = bs at hnum hsl hsb HNX
      clear hm64 hbw
      go_wp2_with fail
      refine (specWords bs gb m (L - m) _ hnum hsl hsb hgb).mono ?_
      rintro e w3 ⟨rfl, hw3, b3⟩
      have hh3 := hh.below b3 hgh
      have hk3 := hk.below b3 hgk
      have hp3 := hp.below b3 hgb
      have hwl := schedTo_length bs 48
      have hwo := schedTo_lt bs hsb 48
      have hsz3 := b3.size
      have hlt3 := hw3.lt
      have HW : Hid (mix shaK (mixTo P j) bs = (mixTo P j).plus (rounds shaK (schedTo bs 48) (mixTo P j) 64)) := rfl
      generalize schedTo bs 48 = ws at hw3 hwl hwo HW
      clear hh hk hp hnum hsl hsb
      go_wp2_with fail
      refine (specMix (mixTo P j) (mixTo_ok P j) shaK ws gh wr.heap.size gk _ hh3 hw3 hk3 hwl rfl hwo shaK_ok).mono ?_
      rintro e w4 ⟨rfl, hr4, b4⟩
      have hk4 := hk3.below b4 hk3.lt
      have hp4 := hp3.below b4 hp3.lt
      rw [← HW.out, ← HNX.out] at hr4
      clear hh3 hk3 hp3 hw3 hwl hwo
      go_wp2
      go_roundw
      case rel =>
        refine ⟨j + 1, m + 64, w3.heap.size + 1, by omega, by go_num, ?_, rfl, hr4, hk4, hp4, (HB.out.trans (b3.mono (by omega))).trans (b4.mono (by omega))⟩
        show m + 64 = 64 * (j + 1)
        have := HM.out
        omega
      case measure => simp [intOf]; omega
    · have HJ : Hid (j = L / 64) := by show j = L / 64; have h1 := HLm.out; have h2 := HM.out; omega
      clear hm64
      go_wp2
      go_ret
      rw [HSH.out, ← HJ.out]
      exact ⟨gh, rfl, hh, hbw⟩

set_option maxHeartbeats 1000000 in
set_option maxRecDepth 100000 in
theorem specSum (s : ByteArray) (w : World) (hs : s.size ≤ 1073741824) :
    Calls Tryd.prog 72 #[.string s] w fun e w' => e = .returned (.string ⟨(sumB s.data.toList).toArray⟩) ∧ Below w.heap.size w w' := by
  go_enter Tryd.func72, Tryd.ntmps72
  go_wp2_with fail
  refine (specSha s _ hs).mono ?_
  rintro e w1 ⟨g, rfl, hr, b1⟩
  have hok : (sha s.data.toList).ok := mixTo_ok _ _
  have HS : Hid (sumB s.data.toList = hexOf (sha s.data.toList).a ++ hexOf (sha s.data.toList).b) := rfl
  generalize sha s.data.toList = t at hr hok HS
  have c0 : w1.cell? ⟨g, 0, none⟩ = some (.int .i64 (t.a : Int)) := hr.cell 0 (by simp [St.toL])
  have c1 : w1.cell? ⟨g, 1, none⟩ = some (.int .i64 (t.b : Int)) := hr.cell 1 (by simp [St.toL])
  have hg := hr.lt
  have la := hok.1
  have lb := hok.2.1
  have hl8 : ∀ x, (hexOf x).length = 8 := fun x => by simp [hexOf]
  go_wp2_with fail
  go_region_with (first | (go_at_call_of 94 (Value.int .i64 (t.a : Int)); refine (specHex _ _ la).mono ?_; rintro e w2 ⟨rfl, b2⟩; have d1 : w2.cell? ⟨g, 1, none⟩ = some (.int .i64 (t.b : Int)) := (b2.cell (p := ⟨g, 1, none⟩) hg).trans c1) | (go_at_call_of 94 (Value.int .i64 (t.b : Int)); refine (specHex _ _ lb).mono ?_; rintro e w3 ⟨rfl, b3⟩))
  all_goals
    go_wp2
    go_ret
    rw [HS.out]
    have hcat : (⟨(hexOf t.a).toArray⟩ : ByteArray) ++ ⟨(hexOf t.b).toArray⟩ = ⟨(hexOf t.a ++ hexOf t.b).toArray⟩ := by
      apply ByteArray.ext; simp
    rw [← hcat]
    have b12 := b1.trans (((Below.drew (Below.refl _ w1)).trans b2).mono b1.size)
    exact ⟨rfl, b12.trans (b3.mono b12.size)⟩

end Go.Proofs.YtjeldedjhlicmaaDoor
