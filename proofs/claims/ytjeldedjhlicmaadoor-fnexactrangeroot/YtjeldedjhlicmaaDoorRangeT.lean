/-
  Powers of two, as both programs tell them.
-/
import Derived.Test.YtjeldedjhlicmaaDoorRangeM
set_option linter.unusedVariables false
namespace Go.Proofs.YtjeldedjhlicmaaDoor
open Go.RowKit Go.Deep

theorem upTo20 {c : Int} (h1 : 1 ≤ c) (h2 : c ≤ 20) : c = 1 ∨ c = 2 ∨ c = 3 ∨ c = 4 ∨ c = 5 ∨ c = 6 ∨ c = 7 ∨ c = 8 ∨ c = 9 ∨ c = 10 ∨ c = 11 ∨ c = 12 ∨ c = 13 ∨ c = 14 ∨ c = 15 ∨ c = 16 ∨ c = 17 ∨ c = 18 ∨ c = 19 ∨ c = 20 := by omega

set_option maxHeartbeats 1000000 in
set_option maxRecDepth 100000 in
theorem implOnes64 (c : Int) (w : World) (h1 : 1 ≤ c) (h2 : c ≤ 20) :
    Calls Tryd.prog 97 #[.int .u64 c] w fun e w' => w' = w ∧ ∃ r : Int, e = .returned (.int .i64 r) ∧ (r != 1) = !(twoB c) := by
  rcases upTo20 h1 h2 with rfl | rfl | rfl | rfl | rfl | rfl | rfl | rfl | rfl | rfl | rfl | rfl | rfl | rfl | rfl | rfl | rfl | rfl | rfl | rfl
  all_goals
    clear h1 h2
    go_enter Tryd.func97, Tryd.ntmps97
    go_wp2
    go_ret
    exact ⟨rfl, _, rfl, by decide +kernel⟩

set_option maxHeartbeats 1000000 in
set_option maxRecDepth 100000 in
theorem implOnes (c : Int) (w : World) (h1 : 1 ≤ c) (h2 : c ≤ 20) :
    Calls Tryd.prog 75 #[.int .u64 c] w fun e w' => w' = w ∧ ∃ r : Int, e = .returned (.int .i64 r) ∧ (r != 1) = !(twoB c) := by
  have hw : IntKind.u64.wrap c = c := by rcases upTo20 h1 h2 with rfl | rfl | rfl | rfl | rfl | rfl | rfl | rfl | rfl | rfl | rfl | rfl | rfl | rfl | rfl | rfl | rfl | rfl | rfl | rfl <;> rfl
  go_enter Tryd.func75, Tryd.ntmps75
  go_wp2_with (go_at_call 97; refine (implOnes64 c _ h1 h2).mono ?_; rintro e w1 ⟨rfl, r, rfl, hr⟩)
  go_ret
  exact ⟨rfl, r, rfl, hr⟩

set_option maxHeartbeats 1000000 in
set_option maxRecDepth 100000 in
theorem specTwo (c : Int) (w : World) (h1 : 1 ≤ c) (h2 : c ≤ 20) :
    Calls Tryd.prog 69 #[.int .i64 c] w fun e w' => e = .returned (.bool (twoB c)) ∧ w' = w := by
  go_enter Tryd.func69, Tryd.ntmps69
  go_wp2_with fail
  go_loopw [3] (fun k wr => ∃ (x : Int), k = .int .i64 x ∧ wr = w ∧ (x = 1 ∨ x = 2 ∧ 1 < c ∨ x = 4 ∧ 2 < c ∨ x = 8 ∧ 4 < c ∨ x = 16 ∧ 8 < c ∨ x = 32 ∧ 16 < c)) (fun k _ => 40 - (intOf k).toNat)
  case atStart => exact ⟨1, rfl, rfl, .inl rfl⟩
  case round =>
    obtain ⟨x, rfl, rfl, hx⟩ := hrel
    have hw : IntKind.i64.wrap (x * 2) = x * 2 := by rw [IntKind.wrap_i64]; omega
    by_cases hlt : x < c
    · by_cases h20 : x < 20
      · go_wp2_with fail
        go_roundw
        case rel => exact ⟨x * 2, rfl, trivial, by omega⟩
        case measure => simp [intOf]; omega
      · go_wp2_with fail
        go_ret
        refine ⟨?_, rfl⟩
        show Ending.returned (Value.bool (x == c)) = _
        congr 2
        rw [twoB, Bool.eq_iff_iff]
        simp
        omega
    · go_wp2_with fail
      go_ret
      refine ⟨?_, rfl⟩
      show Ending.returned (Value.bool (x == c)) = _
      congr 2
      rw [twoB, Bool.eq_iff_iff]
      simp
      omega

end Go.Proofs.YtjeldedjhlicmaaDoor
