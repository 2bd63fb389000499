/-
  The program's words of SHA-256: methods that turn them.
-/
import Derived.Test.YtjeldedjhlicmaaDoorShaM
import Derived.Test.YtjeldedjhlicmaaDoorProg
import Derived.WalkSpells
set_option linter.unusedVariables false
namespace Go.Proofs.YtjeldedjhlicmaaDoor
open Go.RowKit

theorem turn32_eq (x j : Nat) (hx : x < 4294967296) (hj : j ≤ 31) : bits .or .u32 ((x : Int) / 2 ^ j) ((x : Int) * 2 ^ (32 - j) % 4294967296) = ((rotr x j : Nat) : Int) := by
  have e1 : (x : Int) * 2 ^ (32 - j) % 4294967296 = ((x * 2 ^ (32 - j) % 4294967296 : Nat) : Int) := by simp
  have e2 : (x : Int) / 2 ^ j = ((x / 2 ^ j : Nat) : Int) := by simp
  rw [e1, e2, or32 _ _ (Nat.lt_of_le_of_lt (Nat.div_le_self _ _) hx) (Nat.mod_lt _ (by decide))]
  rfl

set_option maxHeartbeats 400000 in
set_option maxRecDepth 100000 in
theorem turnI (x : Nat) (k : Int) (w : World) (hx : x < 4294967296) (hk : 1 ≤ k) (hk' : k ≤ 31) :
    Calls Tryd.prog 116 #[.int .u32 x, .int .u64 k] w fun e w' => e = .returned (.int .u32 (rotr x k.toNat : Nat)) ∧ w = w' := by
  obtain ⟨j, rfl⟩ := Int.eq_ofNat_of_zero_le (show 0 ≤ k by omega)
  go_enter Tryd.func116, Tryd.ntmps116
  go_wp2
  go_ret
  rw [Int.toNat_natCast, ← turn32_eq x j hx (by omega)]
  exact ⟨rfl, rfl⟩

theorem x332 (p q r v : Nat) (hp : p < 4294967296) (hq : q < 4294967296) (hr : r < 4294967296) (hv : v = p ^^^ q ^^^ r) : bits .xor .u32 (bits .xor .u32 (p : Int) (q : Int)) (r : Int) = (v : Int) := by
  rw [xor32 _ _ hp hq, xor32 _ _ (xor_lt hp hq) hr, hv]

set_option maxHeartbeats 400000 in
set_option maxRecDepth 100000 in
theorem firstI (x : Nat) (w : World) (hx : x < 4294967296) :
    Calls Tryd.prog 103 #[.int .u32 x] w fun e w' => e = .returned (.int .u32 (big0 x : Nat)) ∧ w = w' := by
  have r := x332 (rotr x 2) (rotr x 13) (rotr x 22) (big0 x) (rotr_lt _ _ hx) (rotr_lt _ _ hx) (rotr_lt _ _ hx) rfl
  go_enter Tryd.func103, Tryd.ntmps103
  go_wp2_with (go_at_call 116; refine (turnI _ _ _ hx (by omega) (by omega)).mono ?_; rintro e w1 ⟨rfl, rfl⟩)
  go_ret
  exact ⟨rfl, rfl⟩

set_option maxHeartbeats 400000 in
set_option maxRecDepth 100000 in
theorem fifthI (x : Nat) (w : World) (hx : x < 4294967296) :
    Calls Tryd.prog 101 #[.int .u32 x] w fun e w' => e = .returned (.int .u32 (big1 x : Nat)) ∧ w = w' := by
  have r := x332 (rotr x 6) (rotr x 11) (rotr x 25) (big1 x) (rotr_lt _ _ hx) (rotr_lt _ _ hx) (rotr_lt _ _ hx) rfl
  go_enter Tryd.func101, Tryd.ntmps101
  go_wp2_with (go_at_call 116; refine (turnI _ _ _ hx (by omega) (by omega)).mono ?_; rintro e w1 ⟨rfl, rfl⟩)
  go_ret
  exact ⟨rfl, rfl⟩

set_option maxHeartbeats 400000 in
set_option maxRecDepth 100000 in
theorem nearI (x : Nat) (w : World) (hx : x < 4294967296) :
    Calls Tryd.prog 105 #[.int .u32 x] w fun e w' => e = .returned (.int .u32 (sig0 x : Nat)) ∧ w = w' := by
  have r := x332 (rotr x 7) (rotr x 18) (x / 8) (sig0 x) (rotr_lt _ _ hx) (rotr_lt _ _ hx) (by omega) rfl
  rw [show ((x / 8 : Nat) : Int) = (x : Int) / 8 from by simp] at r
  go_enter Tryd.func105, Tryd.ntmps105
  go_wp2_with (go_at_call 116; refine (turnI _ _ _ hx (by omega) (by omega)).mono ?_; rintro e w1 ⟨rfl, rfl⟩)
  go_ret
  exact ⟨rfl, rfl⟩

set_option maxHeartbeats 400000 in
set_option maxRecDepth 100000 in
theorem farI (x : Nat) (w : World) (hx : x < 4294967296) :
    Calls Tryd.prog 106 #[.int .u32 x] w fun e w' => e = .returned (.int .u32 (sig1 x : Nat)) ∧ w = w' := by
  have r := x332 (rotr x 17) (rotr x 19) (x / 1024) (sig1 x) (rotr_lt _ _ hx) (rotr_lt _ _ hx) (by omega) rfl
  rw [show ((x / 1024 : Nat) : Int) = (x : Int) / 1024 from by simp] at r
  go_enter Tryd.func106, Tryd.ntmps106
  go_wp2_with (go_at_call 116; refine (turnI _ _ _ hx (by omega) (by omega)).mono ?_; rintro e w1 ⟨rfl, rfl⟩)
  go_ret
  exact ⟨rfl, rfl⟩

set_option maxHeartbeats 400000 in
set_option maxRecDepth 100000 in
theorem chooseI (e f g : Nat) (w : World) (he : e < 4294967296) (hf : f < 4294967296) (hg : g < 4294967296) :
    Calls Tryd.prog 102 #[.int .u32 e, .int .u32 f, .int .u32 g] w fun r w' => r = .returned (.int .u32 (chs e f g : Nat)) ∧ w = w' := by
  have h1 : bits .xor .u32 IntKind.u32.max (e : Int) = ((4294967295 ^^^ e : Nat) : Int) := by
    have hm : IntKind.u32.max = ((4294967295 : Nat) : Int) := by decide
    rw [hm]
    exact xor32 4294967295 e (by decide) he
  have h2 : 4294967295 ^^^ e < 4294967296 := xor_lt (by decide) he
  have r : bits .xor .u32 (bits .and .u32 (e : Int) (f : Int)) (bits .and .u32 (bits .xor .u32 IntKind.u32.max (e : Int)) (g : Int)) = ((chs e f g : Nat) : Int) := by
    rw [h1, and32 _ _ he hf, and32 _ _ h2 hg, xor32 _ _ (and_lt hf) (and_lt hg)]
    rfl
  clear h1 h2
  go_enter Tryd.func102, Tryd.ntmps102
  go_wp2
  go_ret
  exact ⟨rfl, rfl⟩

set_option maxHeartbeats 400000 in
set_option maxRecDepth 100000 in
theorem mostI (a b c : Nat) (w : World) (ha : a < 4294967296) (hb : b < 4294967296) (hc : c < 4294967296) :
    Calls Tryd.prog 104 #[.int .u32 a, .int .u32 b, .int .u32 c] w fun r w' => r = .returned (.int .u32 (maj a b c : Nat)) ∧ w = w' := by
  have r : bits .xor .u32 (bits .xor .u32 (bits .and .u32 (a : Int) (b : Int)) (bits .and .u32 (a : Int) (c : Int))) (bits .and .u32 (b : Int) (c : Int)) = ((maj a b c : Nat) : Int) := by
    rw [and32 _ _ ha hb, and32 _ _ ha hc, and32 _ _ hb hc]
    exact x332 _ _ _ _ (and_lt hb) (and_lt hc) (and_lt hc) rfl
  go_enter Tryd.func104, Tryd.ntmps104
  go_wp2
  go_ret
  exact ⟨rfl, rfl⟩

end Go.Proofs.YtjeldedjhlicmaaDoor
