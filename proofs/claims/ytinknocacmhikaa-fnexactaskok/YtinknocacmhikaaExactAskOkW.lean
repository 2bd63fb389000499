/-
  The walk of AskOk's statement.
-/
import Derived.Test.YtinknocacmhikaaAskL
import Derived.Lib.Builder
set_option linter.unusedVariables false
namespace Go.Proofs.Ytinknocacmhikaa
open Go.RowKit
def ASt (w w' : World) (g : Nat) (k f n : Int) : Prop := (w'.cell? ⟨g, 0, none⟩ = some (.int .i64 k) ∧ w'.cell? ⟨g, 1, none⟩ = some (.int .i64 f) ∧ w'.cell? ⟨g, 2, none⟩ = some (.int .i64 n)) ∧ Below w.heap.size w w' ∧ g < w'.heap.size
theorem ASt.call {w w' w'' : World} {g : Nat} {k f n : Int} (h : ASt w w' g k f n) (hb : Below w'.heap.size w' w'') : ASt w w'' g k f n :=
  ⟨⟨(hb.cell h.2.2).trans h.1.1, (hb.cell h.2.2).trans h.1.2.1, (hb.cell h.2.2).trans h.1.2.2⟩, h.2.1.trans (hb.mono h.2.1.size), Nat.lt_of_lt_of_le h.2.2 hb.size⟩
theorem ASt.new (w : World) (T : TypeId) (k f n : Int) : ASt w (w.alloc (.cells #[.int .i64 k, .int .i64 f, .int .i64 n] T)) w.heap.size k f n := by
  have h := heap_alloc_new w (.cells #[.int .i64 k, .int .i64 f, .int .i64 n] T)
  refine ⟨⟨?_, ?_, ?_⟩, (Below.refl _ w).alloc (Nat.le_refl _) _, by simp⟩ <;> (rw [Lib.cell_of_heap h]; rfl)
set_option maxHeartbeats 1000000 in
set_option maxRecDepth 100000 in
theorem walk_FnExactAskOk (k f n : Int) (w : World) (hw : AskWf k f n) :
    Calls Try.prog 3 #[askVal k f n] w fun e w' => e = .returned (.bool true) ∧ Below w.heap.size w w' := by
  have hto := toAskA k f n
  have hsp := specAskOk k f n
  have him := implAskOk k f n
  generalize askB k f n = b at hsp him
  unfold askVal at hto hsp him ⊢
  have S0 : ASt w _ w.heap.size k f n := ASt.new w 23 k f n
  clear hw
  go_enter Try.func3, Try.ntmps3
  go_wp2_with fail
  refine (hto _).mono ?_
  rintro e w1 ⟨rfl, b1⟩
  have S1 := S0.call b1
  go_wp2_with fail
  refine (hsp _).mono ?_
  rintro e w2 ⟨rfl, b2⟩
  have S2 := S1.call b2
  obtain ⟨c0, c1, c2⟩ := S2.1
  go_wp2_with fail
  refine (hto _).mono ?_
  rintro e w3 ⟨rfl, b3⟩
  have S3 := S2.call b3
  go_wp2_with fail
  refine (him _).mono ?_
  rintro e w4 ⟨rfl, b4⟩
  cases b <;> (go_wp2_with fail; go_ret; exact ⟨rfl, (S3.call b4).2.1⟩)
end Go.Proofs.Ytinknocacmhikaa
