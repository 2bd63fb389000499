/-
  The specification's rounds of SHA-256: turning bits.
-/
import Derived.Test.YtjeldedjhlicmaaDoorShaM
import Derived.Test.YtjeldedjhlicmaaDoorProg
import Derived.BigQuiet
import Derived.Deep.QuietTactic
import Derived.RegionTactic
import Derived.BigRegion
import Derived.ChangeAlike
set_option linter.unusedVariables false
namespace Go.Proofs.YtjeldedjhlicmaaDoor
open Go.RowKit

theorem turn_eq (x j : Nat) (hx : x < 4294967296) (hj : j ≤ 31) (hj1 : 1 ≤ j) : bits .or .i64 ((x : Int) / 2 ^ j) (bits .and .i64 (wrap64 ((x : Int) * 2 ^ (32 - j))) 4294967295) = ((rotr x j : Nat) : Int) := by
  have h31 : 2 ^ (32 - j) ≤ 2 ^ 31 := Nat.pow_le_pow_right (by decide) (by omega)
  have hm : x * 2 ^ (32 - j) ≤ 4294967295 * 2147483648 := Nat.mul_le_mul (by omega) h31
  have e1 : (x : Int) * 2 ^ (32 - j) = ((x * 2 ^ (32 - j) : Nat) : Int) := by simp
  have e2 : (x : Int) / 2 ^ j = ((x / 2 ^ j : Nat) : Int) := by simp
  rw [e1, e2, show wrap64 ((x * 2 ^ (32 - j) : Nat) : Int) = ((x * 2 ^ (32 - j) : Nat) : Int) from by unfold wrap64; omega]
  rw [mask64 _ (by omega), or64 _ _ (Nat.lt_of_le_of_lt (Nat.div_le_self _ _) hx) (Nat.mod_lt _ (by decide))]
  rfl

set_option maxHeartbeats 400000 in
set_option maxRecDepth 100000 in
theorem turn (x : Nat) (k : Int) (w : World) (hx : x < 4294967296) (hk : 1 ≤ k) (hk' : k ≤ 31) :
    Calls Tryd.prog 118 #[.int .i64 x, .int .i64 k] w fun e w' => e = .returned (.int .i64 (rotr x k.toNat : Nat)) ∧ ∃ n, w' = w.drewN n := by
  obtain ⟨j, rfl⟩ := Int.eq_ofNat_of_zero_le (show 0 ≤ k by omega)
  go_enter Tryd.func118, Tryd.ntmps118
  go_wp2_with fail
  go_quiet (fail)
  go_wp2
  go_ret
  rw [Int.toNat_natCast, ← turn_eq x j hx (by omega) (by omega)]
  exact ⟨rfl, nq, rfl⟩

def zeros64 : Array Value := ((List.replicate 64 (0 : Nat)).map fun n : Nat => Value.int .i64 (n : Int)).toArray
theorem make64 (w : World) : (Instr.makeSlice 125 (.int .i64 64) (.int .i64 64)).run Tryd.prog w = .ok (.slice (some ⟨w.heap.size, 0, none⟩) 64 64) (w.alloc (.cells zeros64 3)) := by kernel_rfl

/-- A slice of numbers, as it is read. -/
def Nums (w : World) (g o : Nat) (l : List Nat) : Prop := ∀ i, i < l.length → w.cell? ⟨g, o + i, none⟩ = some (.int .i64 ((l.getD i 0 : Nat) : Int))
theorem Nums.below {w w' : World} {g o B : Nat} {l : List Nat} (h : Nums w g o l) (hb : Below B w w') (hg : g < B) : Nums w' g o l := fun i hi => by
  rw [hb.cell (p := ⟨g, o + i, none⟩) hg]; exact h i hi

set_option maxHeartbeats 1000000 in
set_option maxRecDepth 100000 in
theorem specWords (bs : List Nat) (g o cap : Nat) (w : World) (hn : Nums w g o bs) (hl : bs.length = 64) (hb : ∀ x ∈ bs, x < 256) (hg : g < w.heap.size) :
    Calls Tryd.prog 113 #[.slice (some ⟨g, o, none⟩) 64 cap] w fun e w' => e = .returned (.slice (some ⟨w.heap.size, 0, none⟩) 64 64) ∧ RowN 3 w' w.heap.size (schedTo bs 48) ∧ Below w.heap.size w w' := by
  have hmk := make64
  go_enter Tryd.func113, Tryd.ntmps113
  go_wp2
  clear hmk
  go_loopw [4] (fun i wr => ∃ k : Nat, k ≤ 16 ∧ i = .int .i64 k ∧ RowN 3 wr w.heap.size ((first16 bs).take k ++ List.replicate (64 - k) 0) ∧ Below w.heap.size w wr) (fun i _ => 16 - (intOf i).toNat)
  case atStart => exact ⟨0, by omega, rfl, heap_alloc_new w _, (Below.refl _ w).alloc (Nat.le_refl _) _⟩
  case round =>
    obtain ⟨k, hk, rfl, hrow, hbw⟩ := hrel
    have hnr := hn.below hbw hg
    by_cases hlt : k < 16
    · obtain ⟨x0, hx0⟩ : ∃ x, x = bs.getD (4 * k) 0 := ⟨_, rfl⟩
      obtain ⟨x1, hx1⟩ : ∃ x, x = bs.getD (4 * k + 1) 0 := ⟨_, rfl⟩
      obtain ⟨x2, hx2⟩ : ∃ x, x = bs.getD (4 * k + 2) 0 := ⟨_, rfl⟩
      obtain ⟨x3, hx3⟩ : ∃ x, x = bs.getD (4 * k + 3) 0 := ⟨_, rfl⟩
      have c0 := hnr (4 * k) (by omega)
      have c1 := hnr (4 * k + 1) (by omega)
      have c2 := hnr (4 * k + 2) (by omega)
      have c3 := hnr (4 * k + 3) (by omega)
      rw [← hx0] at c0
      rw [← hx1] at c1
      rw [← hx2] at c2
      rw [← hx3] at c3
      have b0 : x0 < 256 := by rw [hx0]; exact byte_getD hb _
      have b1 : x1 < 256 := by rw [hx1]; exact byte_getD hb _
      have b2 : x2 < 256 := by rw [hx2]; exact byte_getD hb _
      have b3 : x3 < 256 := by rw [hx3]; exact byte_getD hb _
      obtain ⟨v, hv⟩ : ∃ v : Nat, v = x0 * 16777216 + x1 * 65536 + x2 * 256 + x3 := ⟨_, rfl⟩
      have hor := or4 x0 x1 x2 x3 b0 b1 b2 b3
      rw [← hv] at hor
      have HV : Hid (v = (first16 bs).getD k 0) := by
        have := first16_at bs k hlt
        rw [← hx0, ← hx1, ← hx2, ← hx3, ← hv] at this
        exact this.symm
      have hfz := hrow.frozen k
      have hck := hrow.cell k (by simp; omega)
      generalize ((first16 bs).take k ++ List.replicate (64 - k) 0).getD k 0 = old at hck
      have HROW : Hid (RowN 3 wr w.heap.size ((first16 bs).take k ++ List.replicate (64 - k) 0)) := hrow
      have HB : Hid (Below w.heap.size w wr) := hbw
      clear hnr hx0 hx1 hx2 hx3 hv hrow hbw
      go_wp2_with fail
      go_region
      go_wp2
      go_roundw
      case rel =>
        refine ⟨k + 1, by omega, by go_num, ?_, (HB.out.setCell (p := ⟨w.heap.size, k, none⟩) (Nat.le_refl _) _).drew⟩
        have := (HROW.out.set k v).drew
        rw [HV.out, set_next _ 64 k (by simp [first16]; omega) (by omega), ← HV.out] at this
        exact this
      case measure => simp [intOf]; omega
    · have hk16 : k = 16 := by omega
      have hrow0 : RowN 3 wr w.heap.size (schedTo bs 0 ++ List.replicate 48 0) := by
        rw [hk16] at hrow
        have : (first16 bs).take 16 = schedTo bs 0 := List.take_of_length_le (by simp [first16])
        rw [this] at hrow; exact hrow
      clear hrow hnr hk hk16
      obtain ⟨w0, rfl⟩ : ∃ w0 : World, w0 = wr := ⟨_, rfl⟩
      obtain ⟨k0, hk0⟩ : ∃ k0 : Nat, k0 = k := ⟨_, rfl⟩
      rw [← hk0] at hlt ⊢
      clear hk0
      go_wp2
      go_loopw [5] (fun i wr => ∃ k : Nat, k ≤ 48 ∧ i = .int .i64 ((16 + k : Nat) : Int) ∧ RowN 3 wr w.heap.size (schedTo bs k ++ List.replicate (48 - k) 0) ∧ Below w.heap.size w wr) (fun i _ => 64 - (intOf i).toNat)
      case atStart => exact ⟨0, by omega, rfl, hrow0, hbw⟩
      case round =>
        clear hbw hrow0
        obtain ⟨k, hk, rfl, hrow, hbw⟩ := hrel
        by_cases hlt : k < 48
        · have hlen := schedTo_length bs k
          have hall := schedTo_lt bs hb k
          obtain ⟨p, hp⟩ : ∃ x, x = (schedTo bs k).getD k 0 := ⟨_, rfl⟩
          obtain ⟨x, hx⟩ : ∃ x, x = (schedTo bs k).getD (k + 1) 0 := ⟨_, rfl⟩
          obtain ⟨q, hq⟩ : ∃ x, x = (schedTo bs k).getD (k + 9) 0 := ⟨_, rfl⟩
          obtain ⟨y, hy⟩ : ∃ x, x = (schedTo bs k).getD (k + 14) 0 := ⟨_, rfl⟩
          have cp := hrow.cell k (by simp; omega)
          have cx := hrow.cell (k + 1) (by simp; omega)
          have cq := hrow.cell (k + 9) (by simp; omega)
          have cy := hrow.cell (k + 14) (by simp; omega)
          rw [sched_at bs k _ _ (by omega), ← hp] at cp
          rw [sched_at bs k _ _ (by omega), ← hx] at cx
          rw [sched_at bs k _ _ (by omega), ← hq] at cq
          rw [sched_at bs k _ _ (by omega), ← hy] at cy
          have cx2 : wr.cell? ⟨w.heap.size, 16 + k - 15, none⟩ = some (.int .i64 (x : Int)) := by rw [show 16 + k - 15 = k + 1 from by omega]; exact cx
          have cy2 : wr.cell? ⟨w.heap.size, 16 + k - 2, none⟩ = some (.int .i64 (y : Int)) := by rw [show 16 + k - 2 = k + 14 from by omega]; exact cy
          have cq2 : wr.cell? ⟨w.heap.size, 16 + k - 7, none⟩ = some (.int .i64 (q : Int)) := by rw [show 16 + k - 7 = k + 9 from by omega]; exact cq
          have cp2 : wr.cell? ⟨w.heap.size, 16 + k - 16, none⟩ = some (.int .i64 (p : Int)) := by rw [show 16 + k - 16 = k from by omega]; exact cp
          have lp : p < 4294967296 := by rw [hp]; exact getD_lt hall _
          have lx : x < 4294967296 := by rw [hx]; exact getD_lt hall _
          have lq : q < 4294967296 := by rw [hq]; exact getD_lt hall _
          have ly : y < 4294967296 := by rw [hy]; exact getD_lt hall _
          obtain ⟨s0, hs0⟩ : ∃ v, v = sig0 x := ⟨_, rfl⟩
          obtain ⟨s1, hs1⟩ : ∃ v, v = sig1 y := ⟨_, rfl⟩
          have l0 : s0 < 4294967296 := by rw [hs0]; exact sig0_lt x lx
          have l1 : s1 < 4294967296 := by rw [hs1]; exact sig1_lt y ly
          have r0 : bits .xor .i64 (bits .xor .i64 ((rotr x 7 : Nat) : Int) ((rotr x 18 : Nat) : Int)) ((x : Int) / 8) = (s0 : Int) := by
            rw [xor64 _ _ (rotr_lt _ _ lx) (rotr_lt _ _ lx), show (x : Int) / 8 = ((x / 8 : Nat) : Int) from by simp, xor64 _ _ (xor_lt (rotr_lt _ _ lx) (rotr_lt _ _ lx)) (by omega), hs0]
            rfl
          have r1 : bits .xor .i64 (bits .xor .i64 ((rotr y 17 : Nat) : Int) ((rotr y 19 : Nat) : Int)) ((y : Int) / 1024) = (s1 : Int) := by
            rw [xor64 _ _ (rotr_lt _ _ ly) (rotr_lt _ _ ly), show (y : Int) / 1024 = ((y / 1024 : Nat) : Int) from by simp, xor64 _ _ (xor_lt (rotr_lt _ _ ly) (rotr_lt _ _ ly)) (by omega), hs1]
            rfl
          obtain ⟨v, hv⟩ : ∃ v : Nat, v = (p + s0 + q + s1) % 4294967296 := ⟨_, rfl⟩
          have rm : bits .and .i64 ((p : Int) + (s0 : Int) + (q : Int) + (s1 : Int)) 4294967295 = (v : Int) := by
            rw [hv, ← mask64 _ (by omega)]
            simp
          have HV : Hid ((schedTo bs k ++ List.replicate (48 - k) 0).set (16 + k) v = schedTo bs (k + 1) ++ List.replicate (48 - (k + 1)) 0) := by
            refine sched_set bs k hlt v ?_
            rw [hv, hs0, hs1, hp, hx, hq, hy]
          have hfz := hrow.frozen (16 + k)
          have hck := hrow.cell (16 + k) (by simp; omega)
          generalize (schedTo bs k ++ List.replicate (48 - k) 0).getD (16 + k) 0 = old at hck
          have HROW : Hid (RowN 3 wr w.heap.size (schedTo bs k ++ List.replicate (48 - k) 0)) := hrow
          have HB : Hid (Below w.heap.size w wr) := hbw
          clear hp hx hq hy hs0 hs1 hv hrow hbw hlen hall hn
          go_wp2_with (go_at_call 118; refine (turn _ _ _ (by omega) (by omega) (by omega)).mono ?_; rintro e w1 ⟨rfl, n1, rfl⟩)
          go_region
          go_wp2
          go_roundw
          case rel =>
            refine ⟨k + 1, by omega, by go_num, ?_, ?_⟩
            · have := (HROW.out.set (16 + k) v)
              rw [HV.out] at this
              exact this
            · exact (HB.out.setCell (p := ⟨w.heap.size, 16 + k, none⟩) (Nat.le_refl _) _).trans ⟨rfl, rfl, rfl, Nat.le_refl _, fun _ _ => rfl⟩
          case measure => simp [intOf]; omega
        · obtain rfl : k = 48 := by omega
          have hfin : RowN 3 wr w.heap.size (schedTo bs 48) := by simpa using hrow
          clear hrow
          go_wp2
          go_ret
          exact ⟨rfl, hfin, hbw⟩

end Go.Proofs.YtjeldedjhlicmaaDoor
