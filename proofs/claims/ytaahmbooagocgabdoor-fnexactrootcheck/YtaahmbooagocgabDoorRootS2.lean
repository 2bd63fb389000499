/-
  The specification's row above a row.
-/
import Derived.Test.YtaahmbooagocgabDoorRootS
set_option linter.unusedVariables false
namespace Go.Proofs.YtaahmbooagocgabDoor
open Go.RowKit

def sliceLen2 : Value → Nat
  | .slice _ n _ => n
  | _ => 0
theorem row_below {B n : Nat} {e : TypeId} {v : Value} {xs : List Value} {w w1 : World} (h : w.ownsRow B e 1 v n xs) (b1 : Below w.heap.size w w1) : w1.ownsRow B e 1 v n xs := by
  refine ⟨h.1, ?_⟩
  rcases h.2 with h2 | ⟨g, cap, cur, hv, h2, h3, h4⟩
  · exact .inl h2
  · exact .inr ⟨g, cap, cur, hv, h2, by rw [b1.block g (Array.getElem?_eq_some_iff.1 h3).1]; exact h3, h4⟩
theorem bothSum (a b : ByteArray) (w : World) (ha : a.size = 16) (hb : b.size = 16) :
    Calls Tryd.prog 35 #[.string ((⟨#[98, 111, 116, 104, 32]⟩ : ByteArray) ++ a ++ (⟨#[32]⟩ : ByteArray) ++ b)] w fun e w' => e = .returned (.string (bothB a b)) ∧ Below w.heap.size w w' := by
  have hsum := specSum ((⟨#[98, 111, 116, 104, 32]⟩ : ByteArray) ++ a ++ (⟨#[32]⟩ : ByteArray) ++ b) w (by
    simp only [ByteArray.size_append]
    have e1 : (⟨#[98, 111, 116, 104, 32]⟩ : ByteArray).size = 5 := rfl
    have e2 : (⟨#[32]⟩ : ByteArray).size = 1 := rfl
    omega)
  have et : ((⟨#[98, 111, 116, 104, 32]⟩ : ByteArray) ++ a ++ (⟨#[32]⟩ : ByteArray) ++ b).data.toList = [98, 111, 116, 104, 32] ++ a.data.toList ++ [32] ++ b.data.toList := by simp
  rw [et] at hsum
  exact hsum

set_option maxHeartbeats 4000000 in
set_option maxRecDepth 100000 in
theorem specUp (g n cap : Nat) (ss : List ByteArray) (w : World) (h : AtS w g ss) (hn : n = ss.length) (hm : n ≤ 1000000) (hs : ∀ s ∈ ss, s.size = 16) :
    Calls Tryd.prog 127 #[.slice (some ⟨g, 0, none⟩) n cap] w fun e w' => ∃ v, e = .returned v ∧ SRow w.heap.size v (upR ss) w' ∧ Below w.heap.size w w' := by
  obtain ⟨i0, hi, hz0, hz1, hz2⟩ := info_parts infoStr
  have HA : Hid (AtS w g ss) := h
  have HN : Hid (n = ss.length) := hn
  have HS : Hid (∀ i, i < ss.length → (ss.getD i ByteArray.empty).size = 16) := by
    intro i hi
    refine hs _ ?_
    simp [List.getElem?_eq_getElem hi]
  clear h hn hs
  go_enter Tryd.func127, Tryd.ntmps127
  go_wp2_with fail
  have HW0 : Hid (SRow w.heap.size (.slice (some ⟨w.heap.size, 0, none⟩) 0 0) (upR (ss.take 0)) (w.alloc (.cells #[] 9))) := srow_new w
  have HB0 : Hid (Below w.heap.size w (w.alloc (.cells #[] 9))) := (Below.refl _ w).alloc (Nat.le_refl _) _
  go_loopw [3, 4] (fun v i wr => ∃ k : Nat, k ≤ n + 1 ∧ i = .int .i64 (k : Int) ∧ Hid (k % 2 = 0) ∧ Hid (SRow w.heap.size v (upR (ss.take k)) wr) ∧ Hid (Below w.heap.size w wr)) (fun _ i _ => n + 2 - (intOf i).toNat)
  case atStart => exact ⟨0, by omega, rfl, rfl, HW0, HB0⟩
  case round =>
    clear HW0 HB0
    obtain ⟨k, hk, rfl, HE2, HR, HB⟩ := hrel
    obtain ⟨⟨g3, c3, rfl⟩, hrow⟩ := HR.out
    obtain ⟨ml, hml⟩ : ∃ ml, ml = (upR (ss.take k)).length := ⟨_, rfl⟩
    have hmk : ml ≤ k := by
      rw [hml, upR_length]
      simp
      omega
    rw [← hml] at hrow ⊢
    have HML : Hid (ml = (upR (ss.take k)).length) := hml
    have HRW : Hid (wr.ownsRow w.heap.size 9 1 (.slice (some ⟨g3, 0, none⟩) ml c3) ml ((upR (ss.take k)).map Value.string)) := hrow
    clear hml hrow
    have hx1 : ml + 1 ≤ maxLen := by unfold maxLen; omega
    have hx2 : (ml + 1) * 16 ≤ 140737488355328 := by omega
    have hszr := HB.out.size
    by_cases hlt : k < n
    · have hkl : k < ss.length := by rw [← HN.out]; exact hlt
      have hc : wr.cell? ⟨g, k, none⟩ = some (.string (ss.getD k ByteArray.empty)) := by
        rw [HB.out.cell (p := ⟨g, k, none⟩) HA.out.1]
        exact HA.out.2 k hkl
      have lk : (k : Int) < (n : Int) := by omega
      by_cases hlt2 : k + 1 < n
      · have hkl2 : k + 1 < ss.length := by rw [← HN.out]; exact hlt2
        have hc2 : wr.cell? ⟨g, k + 1, none⟩ = some (.string (ss.getD (k + 1) ByteArray.empty)) := by
          rw [HB.out.cell (p := ⟨g, k + 1, none⟩) HA.out.1]
          exact HA.out.2 (k + 1) hkl2
        have hs1 := HS.out k hkl
        have hs2 := HS.out (k + 1) hkl2
        have HE : Hid (upR (ss.take (k + 2)) = upR (ss.take k) ++ [bothB (ss.getD k ByteArray.empty) (ss.getD (k + 1) ByteArray.empty)]) := take_two ss k hkl2 HE2.out
        generalize ss.getD k ByteArray.empty = a at hc hs1 HE
        generalize ss.getD (k + 1) ByteArray.empty = b at hc2 hs2 HE
        have lk2 : (k : Int) + 1 < (n : Int) := by omega
        have HK : Hid (k + 2 ≤ n + 1) := by show _ ≤ _; omega
        have hw1 : IntKind.i64.wrap ((k : Int) + 1) = (k : Int) + 1 := by rw [IntKind.wrap_i64]; omega
        have l0 : (0 : Int) ≤ (k : Int) + 1 := by omega
        have l1 : (0 : Int) ≤ (k : Int) := by omega
        have hgw : g < wr.heap.size := Nat.lt_of_lt_of_le HA.out.1 hszr
        have hne : g ≠ g3 := by
          rcases HRW.out.2 with ⟨h2, _⟩ | ⟨g', cap', cur, hv, h2, _⟩
          · cases h2
          · simp only [Value.slice.injEq, Option.some.injEq, Addr.mk.injEq, and_true] at hv
            have := HA.out.1
            omega
        clear hkl hkl2
        go_wp2_with fail
        go_region_held3 (fun w' => w'.cell? ⟨g, k, none⟩ = some (.string a) ∧ w'.cell? ⟨g, k + 1, none⟩ = some (.string b)) (first | go_keep | (exact ⟨(b1.cell (p := ⟨g, k, none⟩) hgw).trans hc, (b1.cell (p := ⟨g, k + 1, none⟩) hgw).trans hc2⟩) | (have hfar : w4.heap[g]? = w1.heap[g]? := (hgrow4.block g (by simp; omega) (by simpa [Value.ownBlock] using hne)).trans (Below.heap_alloc _ _ _ (by omega)); exact ⟨(World.cell?_of_block (a := ⟨g, k, none⟩) hfar).trans ((b1.cell (p := ⟨g, k, none⟩) hgw).trans hc), (World.cell?_of_block (a := ⟨g, k + 1, none⟩) hfar).trans ((b1.cell (p := ⟨g, k + 1, none⟩) hgw).trans hc2)⟩))
          (first
            | (go_at_call 35; refine (bothSum a b _ hs1 hs2).mono ?_; rintro e w1 ⟨rfl, b0⟩; have b1 : Below wr.heap.size wr w1 := ((Below.refl wr.heap.size wr).drew).trans b0; have hb1s : wr.heap.size ≤ w1.heap.size := b1.size; clear b0)
            | ((refine step_append_lies _ (by rfl) _ _ 98 (by rfl) w.heap.size 9 i0 (.string ⟨#[]⟩) 1 16 Tryd.underlying98 hi hz0 hz1 hz2 rfl (by decide) _ ml _ (by rfl) (World.ownsRow.alloc (row_below HRW.out b1) _) ⟨w1.heap.size, 0, none⟩ 1 1 [.string (bothB a b)] (by rfl) rfl (cell_one_new _ _ _) (by simp [Value.oneCell']) (by decide) hx1 hx2 (by simp; omega) _ rfl ?_; intro g4 c4 w4 hown4 hgrow4 hat4 hlt4)))
        have hb4 : Below w.heap.size w w4 := ((HB.out.trans (b1.mono hszr)).alloc (by omega) _).grown hgrow4 (by simp; omega) (fun j hj => by
          rcases HRW.out.2 with ⟨h2, _⟩ | ⟨g', cap', cur, hv, h2, _⟩
          · cases h2
          · simp only [Value.slice.injEq, Option.some.injEq, Addr.mk.injEq, and_true] at hv
            have : g3 = j := by simpa [Value.ownBlock] using hj
            omega)
        have HR4 : Hid (SRow w.heap.size (.slice (some ⟨g4, 0, none⟩) (ml + 1) c4) (upR (ss.take (k + 2))) w4) := by
          refine ⟨⟨g4, c4, ?_⟩, ?_⟩
          · rw [HE.out, List.length_append, ← HML.out]; rfl
          · rw [HE.out, List.length_append, ← HML.out, List.map_append]; exact hown4
        clear hown4 hgrow4 hat4 hlt4 b1
        go_wp2_with fail
        go_roundw
        case rel => exact ⟨k + 2, HK.out, by go_num, by have := HE2.out; show _ = _; omega, HR4, hb4⟩
        case measure => have := HK.out; simp [intOf]; omega
      · have hkn : k + 1 = ss.length := by have := HN.out; omega
        have hs1 := HS.out k hkl
        have HE : Hid (upR ss = upR (ss.take k) ++ [ss.getD k ByteArray.empty]) := take_last ss k hkn HE2.out
        have HEE : Hid (ss.take (k + 2) = ss) := List.take_of_length_le (by omega)
        generalize ss.getD k ByteArray.empty = a at hc hs1 HE
        have lk2 : ¬ (k : Int) + 1 < (n : Int) := by omega
        have HK : Hid (k + 2 ≤ n + 1) := by show _ ≤ _; omega
        have l1 : (0 : Int) ≤ (k : Int) := by omega
        clear hkl hkn
        go_wp2_with (at_builtin; refine wp_app1 rfl _ _ 98 rfl w.heap.size 9 i0 (.string ⟨#[]⟩) 16 Tryd.underlying98 hi hz0 hz1 hz2 rfl _ _ _ rfl HRW.out (.string a) rfl rfl hx1 hx2 hszr ?_; intro g4 c4 w4 hown4 hb4 _)
        have HR4 : Hid (SRow w.heap.size (.slice (some ⟨g4, 0, none⟩) (ml + 1) c4) (upR (ss.take (k + 2))) w4) := by
          rw [HEE.out]
          refine ⟨⟨g4, c4, ?_⟩, ?_⟩
          · rw [HE.out, List.length_append, ← HML.out]; rfl
          · rw [HE.out, List.length_append, ← HML.out, List.map_append]; exact hown4
        clear hown4
        go_roundw
        case rel => exact ⟨k + 2, HK.out, by go_num, by have := HE2.out; show _ = _; omega, HR4, HB.out.trans hb4⟩
        case measure => have := HK.out; simp [intOf]; omega
    · have HE : Hid (upR (ss.take k) = upR ss) := by
        show _ = _
        rw [List.take_of_length_le (by rw [← HN.out]; omega)]
      go_wp2_with fail
      go_ret
      refine ⟨_, rfl, ?_, HB.out⟩
      have := HR.out
      rw [HML.out, HE.out]
      rw [HE.out] at this
      exact this


end Go.Proofs.YtaahmbooagocgabDoor
