/-
  The laws' marks in a list that came back, and whether they are held.
-/
import Derived.Test.YteihpdnbehnnhaaReader
import Derived.Test.YteihpdnbehnnhaaProg
import Derived.BigRegion
set_option linter.unusedVariables false
namespace Go.Proofs.Yteihpdnbehnnhaa
open Go.RowKit

/-- So many cells of integers, that may be written. -/
def Room (w : World) (g n : Nat) : Prop := ∀ i, i < n → (∃ z, w.cell? ⟨g, i, none⟩ = some (.int .i64 z)) ∧ w.frozen? ⟨g, i, none⟩ = false
/-- The first so many hold the marks from k on. -/
def Marks (w : World) (g n : Nat) (k : Int) : Prop := ∀ i, i < n → w.cell? ⟨g, i, none⟩ = some (.int .i64 (k + (i : Int)))
theorem Room.set {w : World} {g n : Nat} (h : Room w g n) (j : Nat) (z : Int) : Room (w.setCell ⟨g, j, none⟩ (.int .i64 z)) g n := by
  intro i hi
  refine ⟨?_, by rw [World.frozen?_setCell]; exact (h i hi).2⟩
  by_cases hij : i = j
  · subst hij
    obtain ⟨z0, hz⟩ := (h i hi).1
    exact ⟨z, World.cell?_setCell_same' _ _ _ (by rw [hz]; rfl)⟩
  · obtain ⟨z0, hz⟩ := (h i hi).1
    refine ⟨z0, ?_⟩
    rw [World.cell?_setCell_other _ _ _ _ (by intro he; simp only [Addr.mk.injEq, true_and, and_true] at he; exact hij he.symm)]
    exact hz
theorem Marks.set {w : World} {g n j : Nat} {k : Int} (hr : Room w g n) (h : Marks w g j k) (hj : j < n) : Marks (w.setCell ⟨g, j, none⟩ (.int .i64 (k + (j : Int)))) g (j + 1) k := by
  intro i hi
  by_cases hij : i = j
  · subst hij
    obtain ⟨z0, hz⟩ := (hr i hj).1
    exact World.cell?_setCell_same' _ _ _ (by rw [hz]; rfl)
  · rw [World.cell?_setCell_other _ _ _ _ (by intro he; simp only [Addr.mk.injEq, true_and, and_true] at he; exact hij he.symm)]
    exact h i (by omega)

set_option maxHeartbeats 1000000 in
set_option maxRecDepth 100000 in
theorem markInts (g n cap : Nat) (k : Int) (w : World) (h : Room w g n) (hk : 0 ≤ k) (hk2 : k ≤ 1000000000) (hn : n ≤ 1000000000) :
    Calls Try.prog 15 #[.slice (some ⟨g, 0, none⟩) n cap, .int .i64 k] w fun e w' => e = .returned (.int .i64 (k + (n : Int))) ∧ Room w' g n ∧ Marks w' g n k ∧ Only g w w' := by
  have HR : Hid (Room w g n ∧ Marks w g 0 k ∧ Only g w w) := ⟨h, fun i hi => by omega, Only.refl g w⟩
  clear h
  go_enter Try.func15, Try.ntmps15
  go_wp2_with fail
  go_loopw [1, 5] (fun kk i wr => ∃ j : Nat, j ≤ n ∧ kk = .int .i64 (k + (j : Int)) ∧ i = .int .i64 (j : Int) ∧ Hid (Room wr g n ∧ Marks wr g j k ∧ Only g w wr)) (fun _ i _ => n - (intOf i).toNat)
  case atStart => exact ⟨0, by omega, by simp, rfl, HR⟩
  case round =>
    clear HR
    obtain ⟨j, hj, rfl, rfl, HR⟩ := hrel
    by_cases hlt : j < n
    · have HJ : Hid (j + 1 ≤ n) := hlt
      obtain ⟨⟨z, cz⟩, fz⟩ := HR.out.1 j hlt
      have lj : (j : Int) < (n : Int) := by omega
      have HM : Hid (Marks (wr.setCell ⟨g, j, none⟩ (.int .i64 (k + (j : Int)))) g (j + 1) k) := Marks.set HR.out.1 HR.out.2.1 hlt
      go_wp2_with fail
      go_roundw
      case rel => exact ⟨j + 1, HJ.out, by go_num, by go_num, HR.out.1.set j _, HM.out, HR.out.2.2.trans (Only.setCell g j _ _)⟩
      case measure => have := HJ.out; simp [intOf]; omega
    · have HJ : Hid (j = n) := by show _ = _; omega
      go_wp2_with fail
      go_ret
      rw [HJ.out]
      exact ⟨rfl, HR.out.1, by have := HR.out.2.1; rw [HJ.out] at this; exact this, HR.out.2.2⟩

set_option maxHeartbeats 1000000 in
set_option maxRecDepth 100000 in
theorem heldInts (g n cap : Nat) (k : Int) (w : World) (h : Marks w g n k) (hk : 0 ≤ k) (hk2 : k ≤ 1000000000) (hn : n ≤ 1000000000) :
    Calls Try.prog 16 #[.slice (some ⟨g, 0, none⟩) n cap, .int .i64 k] w fun e w' => e = .returned (.int .i64 (k + (n : Int))) ∧ w = w' := by
  have HR : Hid (Marks w g n k) := h
  clear h
  go_enter Try.func16, Try.ntmps16
  go_wp2_with fail
  go_loop [1, 5] (fun kk i => ∃ j : Nat, j ≤ n ∧ kk = .int .i64 (k + (j : Int)) ∧ i = .int .i64 (j : Int)) (fun _ i => n - (intOf i).toNat)
  case atStart => exact ⟨0, by omega, by simp, rfl⟩
  case round =>
    obtain ⟨j, hj, rfl, rfl⟩ := hrel
    by_cases hlt : j < n
    · have HJ : Hid (j + 1 ≤ n) := hlt
      have cz := HR.out j hlt
      have lj : (j : Int) < (n : Int) := by omega
      go_wp2_with fail
      go_round
      case rel => exact ⟨j + 1, HJ.out, by go_num, by go_num⟩
      case measure => have := HJ.out; simp [intOf]; omega
    · have HJ : Hid (j = n) := by show _ = _; omega
      go_wp2_with fail
      go_ret
      rw [HJ.out]
      exact ⟨rfl, rfl⟩

end Go.Proofs.Yteihpdnbehnnhaa
