/-
  What the specification's VarGet reads: at every text within Go's own bound on a text's size.
-/
import Derived.Test.YtcaejndpmagfaaaDoorVarGetM
import Derived.Test.YtcaejndpmagfaaaDoorProg
import Derived.WalkSpells
set_option linter.unusedVariables false
namespace Go.Proofs.YtcaejndpmagfaaaDoor
open Go.RowKit

set_option maxHeartbeats 2000000 in
set_option maxRecDepth 100000 in
theorem specGet (s : ByteArray) (w : World) (hs : s.size ≤ maxLen) :
    Calls Tryd.prog 55 #[.string s] w fun e w' => e = .returned (.tuple #[.int .i64 (varGet s.data.toList).1, .int .i64 (varGet s.data.toList).2]) ∧ w = w' := by
  unfold maxLen at hs
  go_enter Tryd.func55, Tryd.ntmps55
  go_wp2
  go_loop [4, 5, 6] (fun n b i => ∃ k p v : Nat, k ≤ s.size ∧ k ≤ 5 ∧ i = .int .i64 k ∧ n = .int .i64 v ∧ b = .int .i64 p ∧ Hid (p = 128 ^ k) ∧ Hid (v = vNum (s.data.toList.take k)) ∧ (∀ c ∈ s.data.toList.take k, 128 ≤ c.toNat) ∧ Hid (vg (5 - k) (s.data.toList.take k) (s.data.toList.drop k) = varGet s.data.toList)) (fun _ _ i => s.size - (intOf i).toNat)
  case atStart => exact ⟨0, 1, 0, by omega, by omega, rfl, rfl, rfl, rfl, rfl, by simp, rfl⟩
  case round =>
    obtain ⟨k, p, v, hk, hk5, rfl, rfl, rfl, HP, HV, hall, heq⟩ := hrel
    have hlen := take_len s k hk
    have hvlt : v < p := by rw [HP.out, HV.out]; have := vNum_lt (s.data.toList.take k); rwa [hlen] at this
    by_cases hlt : k < s.size ∧ k < 5
    · obtain ⟨hlt, h5⟩ := hlt
      have hby : (s[k].toNat : Int) < 256 := by have := s[k].toNat_lt; omega
      have hp1 : p ≤ 268435456 := by rw [HP.out]; exact Nat.pow_le_pow_right (by decide) (show k ≤ 4 by omega)
      obtain ⟨q, hq⟩ : ∃ q, q = s[k].toNat % 128 * p := ⟨_, rfl⟩
      have hq1 : q ≤ 127 * 268435456 := by rw [hq]; exact Nat.mul_le_mul (by omega) hp1
      have hmul : wrap64 ((s[k].toNat : Int) % 128 * (p : Int)) = (q : Int) := by
        have : (s[k].toNat : Int) % 128 * (p : Int) = (q : Int) := by rw [hq]; simp
        rw [this]; unfold wrap64; omega
      have HV1 : Hid (v + q = vNum (s.data.toList.take (k + 1))) := by
        have : v + q = vNum (s.data.toList.take (k + 1)) := by rw [take_snoc s k hlt, vNum_snoc, hlen, ← HV.out, hq, HP.out]
        exact this
      have HP1 : Hid (p * 128 = 128 ^ (k + 1)) := by
        have : p * 128 = 128 ^ (k + 1) := by rw [Nat.pow_succ, ← HP.out]
        exact this
      clear hq
      by_cases hb : 128 ≤ s[k].toNat
      · have hb' : ¬ (s[k].toNat : Int) < 128 := by omega
        have HE : Hid (vg (5 - (k + 1)) (s.data.toList.take (k + 1)) (s.data.toList.drop (k + 1)) = varGet s.data.toList) := by
          have := heq.out
          rw [vg_on s k hlt h5 hb] at this; exact this
        have HA : Hid (∀ c ∈ s.data.toList.take (k + 1), 128 ≤ c.toNat) := by
          intro c hc
          rw [take_snoc s k hlt] at hc
          rcases List.mem_append.1 hc with hc | hc
          · exact hall c hc
          · simp at hc; subst hc; exact hb
        clear heq hall
        go_wp2
        go_round
        case rel => exact ⟨k + 1, p * 128, v + q, by omega, by omega, by go_num, by go_num, by go_num, HP1, HV1, HA, HE⟩
        case measure => simp [intOf]; omega
      · have hb' : (s[k].toNat : Int) < 128 := by omega
        have hends : vEnds (s.data.toList.take k) s[k] := ⟨hall, by omega⟩
        have hiff := varPut_vNum _ _ hends (by omega)
        rw [← take_snoc s k hlt, ← HV1.out] at hiff
        by_cases hp : (s.data.toList.take k = [] ∨ s[k] ≠ 0) ∧ v + q ≤ 2147483647
        · have hpp := hiff.2 hp
          have HE : Hid (varGet s.data.toList = (v + q, k + 1)) := by
            have := heq.out
            rw [vg_yes s k hlt h5 hb (by rw [← HV1.out]; rw [HV1.out] at hpp ⊢; exact hpp), ← HV1.out] at this; exact this.symm
          have h31 : ¬ (2147483647 : Int) < (v : Int) + (q : Int) := by omega
          by_cases hk0 : k = 0
          · subst hk0
            clear heq hall hiff hpp hends
            go_wp2
            go_ret2
            rw [HE.out]
            exact ⟨by simp, rfl⟩
          · have hk1 : (0 : Int) < (k : Int) := by omega
            have hne : ((s[k].toNat : Int) == 0) = false := by
              rcases hp.1 with h0 | h0
              · rw [h0] at hlen; simp at hlen; omega
              · simp
                intro h1
                exact h0 (UInt8.toNat.inj (by simpa using h1))
            clear heq hall hiff hpp hends hp
            go_wp2
            go_ret2
            rw [HE.out]
            exact ⟨by simp, rfl⟩
        · have HE : Hid (varGet s.data.toList = (0, 0)) := by
            have := heq.out
            rw [vg_no s k hlt h5 hb (by rw [← HV1.out]; intro hh; rw [HV1.out] at hh hp hiff; exact hp (hiff.1 hh))] at this; exact this.symm
          by_cases h31 : v + q ≤ 2147483647
          · have h31' : ¬ (2147483647 : Int) < (v : Int) + (q : Int) := by omega
            have hk0 : ¬ k = 0 := by
              intro hk0
              exact hp ⟨Or.inl (List.length_eq_zero_iff.1 (by omega)), h31⟩
            have hk1 : (0 : Int) < (k : Int) := by omega
            have he0 : ((s[k].toNat : Int) == 0) = true := by
              by_cases hz : s[k] = 0
              · simp [hz]
              · exact absurd ⟨Or.inr hz, h31⟩ hp
            clear heq hall hiff hends hp
            go_wp2
            go_ret2
            rw [HE.out]
            exact ⟨rfl, rfl⟩
          · have h31' : (2147483647 : Int) < (v : Int) + (q : Int) := by omega
            clear heq hall hiff hends hp
            by_cases hk0 : k = 0
            · subst hk0
              go_wp2
              go_ret2
              rw [HE.out]
              exact ⟨rfl, rfl⟩
            · have hk1 : (0 : Int) < (k : Int) := by omega
              by_cases he0 : ((s[k].toNat : Int) == 0) = true
              · go_wp2
                go_ret2
                rw [HE.out]
                exact ⟨rfl, rfl⟩
              · have he1 : ((s[k].toNat : Int) == 0) = false := by simpa using he0
                clear he0
                go_wp2
                go_ret2
                rw [HE.out]
                exact ⟨rfl, rfl⟩
    · have HE : Hid (varGet s.data.toList = (0, 0)) := by rw [← heq.out]; exact vg_end s k hlt
      clear heq hall
      by_cases hl : k < s.size
      · have h5 : ¬ k < 5 := fun h => hlt ⟨hl, h⟩
        clear hlt
        go_wp2
        go_ret2
        rw [HE.out]
        exact ⟨rfl, rfl⟩
      · clear hlt
        go_wp2
        go_ret2
        rw [HE.out]
        exact ⟨rfl, rfl⟩

end Go.Proofs.YtcaejndpmagfaaaDoor
