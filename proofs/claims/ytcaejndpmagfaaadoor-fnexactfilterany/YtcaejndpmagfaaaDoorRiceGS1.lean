/-
  The specification's look at a bit of a text.
-/
import Derived.Test.YtcaejndpmagfaaaDoorRiceR
import Derived.Test.YtcaejndpmagfaaaDoorRicePM
import Derived.Test.YtcaejndpmagfaaaDoorProg
import Derived.WalkKit
set_option linter.unusedVariables false
namespace Go.Proofs.YtcaejndpmagfaaaDoor
open Go.RowKit

def bitAt (o : List UInt8) (p : Nat) : Int := if p < 8 * o.length then (((o.getD (p / 8) 0).toNat / 2 ^ (7 - p % 8) % 2 : Nat) : Int) else -1
theorem byteBits_at (c : UInt8) (p : Nat) (hp : p < 8) : (byteBits c).getD p 0 = c.toNat / 2 ^ (7 - p) % 2 := by
  match p, hp with
  | 0, _ | 1, _ | 2, _ | 3, _ | 4, _ | 5, _ | 6, _ => rfl
  | 7, _ => simp [byteBits]
theorem unpack_at (o : List UInt8) : ∀ p, p < 8 * o.length → (unpack o).getD p 0 = (o.getD (p / 8) 0).toNat / 2 ^ (7 - p % 8) % 2 := by
  induction o with
  | nil => intro p hp; simp at hp
  | cons c r ih =>
    intro p hp
    have hu : unpack (c :: r) = byteBits c ++ unpack r := rfl
    have hl : (byteBits c).length = 8 := rfl
    rw [hu]
    rcases Nat.lt_or_ge p 8 with h | h
    · have e : p / 8 = 0 := by omega
      rw [List.getD_eq_getElem?_getD, List.getElem?_append_left (by omega), ← List.getD_eq_getElem?_getD, byteBits_at c p h, e, show p % 8 = p from by omega]
      rfl
    · have e : p / 8 = (p - 8) / 8 + 1 := by omega
      have hp' : p - 8 < 8 * r.length := by simp at hp; omega
      rw [List.getD_eq_getElem?_getD, List.getElem?_append_right (by omega), hl, ← List.getD_eq_getElem?_getD, ih (p - 8) hp', e, show (p - 8) % 8 = p % 8 from by omega]
      rfl
theorem bitAt_in {o : List UInt8} {p : Nat} (hp : p < 8 * o.length) : bitAt o p = (((unpack o).getD p 0 : Nat) : Int) := by
  rw [bitAt, if_pos hp, unpack_at o p hp]
theorem bitAt_out {o : List UInt8} {p : Nat} (hp : ¬ p < 8 * o.length) : bitAt o p = -1 := by rw [bitAt, if_neg hp]
theorem bitAt_range (o : List UInt8) (p : Nat) : -1 ≤ bitAt o p ∧ bitAt o p ≤ 1 := by
  unfold bitAt
  split <;> omega

set_option maxHeartbeats 1000000 in
set_option maxRecDepth 100000 in
theorem specBit (s : ByteArray) (p : Nat) (w : World) (hs : s.size ≤ 600) (hp : p ≤ 1000000) :
    Calls Tryd.prog 89 #[.string s, .int .i64 (p : Int)] w fun e w' => e = .returned (.int .i64 (bitAt s.data.toList p)) ∧ w = w' := by
  by_cases h : p < 8 * s.size
  · have hq : p / 8 < s.size := by omega
    obtain ⟨q, hqe⟩ : ∃ q : Nat, q = p / 8 := ⟨_, rfl⟩
    obtain ⟨r, hre⟩ : ∃ r : Nat, r = 7 - p % 8 := ⟨_, rfl⟩
    have rq : (p : Int) / 8 = (q : Int) := by rw [hqe]; simp
    have rr : 7 - (p : Int) % 8 = (r : Int) := by omega
    have hq2 : q < s.size := by omega
    have lq : (q : Int) < (s.size : Int) := by omega
    have HB : Hid (bitAt s.data.toList p = (((s[q].toNat / 2 ^ r % 2 : Nat)) : Int)) := by
      show _ = _
      rw [bitAt, if_pos (by simpa using h), ← hqe, ← hre]
      have : s.data.toList.getD q 0 = s[q] := by
        rw [List.getD_eq_getElem?_getD, List.getElem?_eq_getElem (by simpa using hq2)]
        rfl
      rw [this]
    have hby : (s[q].toNat : Int) < 256 := by have := s[q].toNat_lt; omega
    obtain ⟨x, hx⟩ : ∃ x : Nat, x = s[q].toNat / 2 ^ r := ⟨_, rfl⟩
    have rx : (s[q].toNat : Int) / 2 ^ r = (x : Int) := by rw [hx]; simp
    rw [← hx] at HB
    have hr7 : r ≤ 7 := by omega
    have hr0 : (0 : Int) ≤ (r : Int) := by omega
    clear hqe hre hx hq h
    go_enter Tryd.func89, Tryd.ntmps89
    go_wp2
    go_ret
    rw [HB.out]
    refine ⟨?_, rfl⟩
    simp
  · have HB : Hid (bitAt s.data.toList p = -1) := bitAt_out (by simpa using h)
    have hge : (s.size : Int) ≤ (p : Int) / 8 := by omega
    go_enter Tryd.func89, Tryd.ntmps89
    go_wp2
    go_ret
    rw [HB.out]
    exact ⟨rfl, rfl⟩

end Go.Proofs.YtcaejndpmagfaaaDoor
