/-
  The laws on numbers in bytes: what is drawn, written and read again.
-/
import Derived.Test.YtimknohdclnihaaExactVarGetW
import Derived.Test.YtimknohdclnihaaVarLawsM
import Derived.Test.YtimknohdclnihaaReader
import Derived.Lib.BufferRead
set_option linter.unusedVariables false
namespace Go.Proofs.Ytimknohdclnihaa
open Go.RowKit

/-- The bytes of a slice that came in, as a text. -/
def rowText (zs : List Int) (len : Nat) : List UInt8 := (zs.take len).map fun z => UInt8.ofNat z.toNat

theorem conv_row {P : Program} {w w' : World} {a : Option Addr} {len cap : Nat} {zs : List Int} (src dst e : TypeId) (hs : P.underlying src = some (.slice e)) (he : P.underlying e = some (.int .u8)) (hd : P.underlying dst = some .string)
    (h : IsRow .u8 w a len cap zs) (hb : Below w.heap.size w w') : (convert src dst (.slice a len cap)).run P w' = .ok (.string ⟨(rowText zs len).toArray⟩) w' ∧ (rowText zs len).length = len := by
  rcases h with ⟨rfl, rfl, rfl, rfl⟩ | ⟨x, rfl, hl, hm, hz, hcell, hwz⟩
  · exact ⟨Lib.run_convert_nil_bytes w' src dst e 0 hs he hd, rfl⟩
  · have hlen : (rowText zs len).length = len := by simp [rowText]; omega
    refine ⟨?_, hlen⟩
    have := run_convert_bytes_back (P := P) w' src dst e x cap (rowText zs len) hs he hd ?_
    · rw [hlen] at this; exact this
    · intro j hj
      have hjl : j < zs.length := by omega
      have hc := hcell j hjl
      have hlt : (x.add j).block < w.heap.size := World.block_lt_of_cell? w _ hc
      rw [hb.cell hlt, hc]
      have hmem : zs[j] ∈ zs := List.getElem_mem _
      have hbd := bounds_u8 (hwz _ hmem)
      simp [rowText, List.getElem?_eq_getElem hjl]
      omega

theorem draw_of_only {B b : Nat} {w w1 w2 : World} (h : Below B w w1) (hb : B ≤ b) (ho : Only b w1 w2) : Below B w w2 := h.trans (ho.below hb)

set_option maxHeartbeats 400000 in
set_option maxRecDepth 100000 in
theorem drawVarPut (a : Option Addr) (len cap : Nat) (zs : List Int) (w : World) (h : IsRow .u8 w a len cap zs) :
    Calls Try.prog 13 #[.slice a len cap] w fun e w' => ∃ n : Int, e = .returned (.int .i64 n) ∧ Below w.heap.size w w' := by
  go_enter Try.func13, Try.ntmps13
  go_wp2_with fail
  refine (open_walk a len cap zs _ h).mono ?_
  rintro e w1 ⟨rfl, hr, b1, hs1⟩
  have hlt1 := hr.lt
  clear hs1
  go_wp2_with fail
  have hbk := heap_alloc_new w1 (.cells #[.int .i64 0, .int .i64 1, .int .i64 127, .int .i64 128, .int .i64 300, .int .i64 16383, .int .i64 16384, .int .i64 2097151, .int .i64 2097152, .int .i64 2147483647, .int .i64 2147483648, .int .i64 (-1)] 3)
  refine (one_walk w.heap.size w.heap.size 0 w1.heap.size 12 12 [0, 1, 127, 128, 300, 16383, 16384, 2097151, 2097152, 2147483647, 2147483648, -1] _ (hr.keep ((Below.refl _ w1).alloc (by omega) _)) (by omega) (by omega) (by omega) (cells_ints hbk rfl 12 (by decide)) (by omega)).mono ?_
  rintro e w2 ⟨x, hx, rfl, hr2, ho⟩
  go_wp2
  go_ret
  exact ⟨_, rfl, draw_of_only (b1.alloc (by omega) _) (Nat.le_refl _) ho⟩

set_option maxHeartbeats 1000000 in
set_option maxRecDepth 100000 in
theorem walk_FnVarPut (a0 : Option Addr) (len0 cap0 : Nat) (z0 : List Int) (a1 : Option Addr) (len1 cap1 : Nat) (z1 : List Int) (w : World) (h0 : IsRow .u8 w a0 len0 cap0 z0) (h1 : IsRow .u8 w a1 len1 cap1 z1) :
    Calls Try.prog 5 #[.slice a0 len0 cap0, .slice a1 len1 cap1] w fun e w' => e = .returned (.bool true) ∧ Below w.heap.size w w' := by
  by_cases hl0 : (1048576 : Int) < (len0 : Int)
  · go_enter Try.func5, Try.ntmps5
    go_wp2
    go_ret
    exact ⟨rfl, Below.refl _ _⟩
  by_cases hl1 : (1048576 : Int) < (len1 : Int)
  · go_enter Try.func5, Try.ntmps5
    go_wp2
    go_ret
    exact ⟨rfl, Below.refl _ _⟩
  go_enter Try.func5, Try.ntmps5
  go_wp2_with fail
  refine (drawVarPut a0 len0 cap0 z0 _ h0).mono ?_
  rintro e w1 ⟨n, rfl, b1⟩
  go_wp2_with fail
  refine (implVarPut n _).mono ?_
  rintro e w2 ⟨rfl, b2⟩
  have b12 := b1.trans (b2.mono b1.size)
  go_wp2_with fail
  refine (specVarPut n _).mono ?_
  rintro e w3 ⟨rfl, b3⟩
  have b13 := b12.trans (b3.mono b12.size)
  clear b1 b2 b3 b12
  by_cases hn : 0 ≤ n ∧ n ≤ 2147483647
  · obtain ⟨m, rfl⟩ := Int.eq_ofNat_of_zero_le hn.1
    obtain ⟨hg, hp1, hp5⟩ := varGet_put m (by omega) (rowText z1 len1)
    have hne : (varPut (m : Int)).isEmpty = false := by
      cases hv : varPut (m : Int) with
      | nil => rw [hv] at hp1; simp at hp1
      | cons _ _ => rfl
    have HG : Hid (varGet (varPut (m : Int) ++ rowText z1 len1) = (m, (varPut (m : Int)).length)) := hg
    obtain ⟨hcv, hrl⟩ := conv_row (P := Try.prog) 27 9 5 Try.underlying27 Try.underlying5 Try.underlying9 h1 b13
    clear hg
    have hcat : (⟨(varPut (m : Int)).toArray⟩ : ByteArray) ++ ⟨(rowText z1 len1).toArray⟩ = ⟨(varPut (m : Int) ++ rowText z1 len1).toArray⟩ := by
      apply ByteArray.ext; simp
    have hle5 : ((varPut (m : Int)).length : Int) ≤ 5 := by omega
    go_wp2_with fail
    refine (implVarGet _ _ ?_).mono ?_
    · show (varPut (m : Int) ++ rowText z1 len1).toArray.size ≤ maxLen; simp [maxLen]; omega
    rintro e w4 ⟨rfl, b4⟩
    have hL : (⟨(varPut (m : Int) ++ rowText z1 len1).toArray⟩ : ByteArray).data.toList = varPut (m : Int) ++ rowText z1 len1 := rfl
    rw [hL, HG.out]
    clear hL hcat hcv hne
    go_wp2
    go_ret
    exact ⟨rfl, b13.trans (b4.mono b13.size)⟩
  · have hne : (varPut n).isEmpty = true := by simp [varPut, hn]
    have hnn : n < 0 ∨ 2147483647 < n := by omega
    have hemp : varPut n = [] := by simpa using hne
    rcases hnn with hnn | hnn
    · go_wp2_with fail
      refine (specVarPut n _).mono ?_
      rintro e w4 ⟨rfl, b4⟩
      go_wp2
      go_ret
      exact ⟨rfl, b13.trans (b4.mono b13.size)⟩
    · have hn0 : ¬ n < 0 := by omega
      go_wp2_with fail
      refine (specVarPut n _).mono ?_
      rintro e w4 ⟨rfl, b4⟩
      go_wp2
      go_ret
      exact ⟨rfl, b13.trans (b4.mono b13.size)⟩

/-- What of a text begins it. -/
theorem take_text (s : ByteArray) (k : Nat) : (s.extract 0 k).toList = s.data.toList.take k := by rw [Lib.extract_toList]; simp

set_option maxHeartbeats 1000000 in
set_option maxRecDepth 100000 in
theorem drawVarGet (a : Option Addr) (len cap : Nat) (zs : List Int) (w : World) (h : IsRow .u8 w a len cap zs) :
    Calls Try.prog 14 #[.slice a len cap] w fun e w' => ∃ s : ByteArray, e = .returned (.string s) ∧ s.size ≤ 1000 ∧ Below w.heap.size w w' := by
  go_enter Try.func14, Try.ntmps14
  go_wp2_with fail
  refine (open_walk a len cap zs _ h).mono ?_
  rintro e w1 ⟨rfl, hr, b1, hs1⟩
  have hlt1 := hr.lt
  clear hs1
  go_wp2_with fail
  have hbk := heap_alloc_new w1 (.cells #[.int .i64 0, .int .i64 1, .int .i64 127, .int .i64 128, .int .i64 300, .int .i64 16384, .int .i64 2147483647] 3)
  refine (one_walk w.heap.size w.heap.size 0 w1.heap.size 7 7 [0, 1, 127, 128, 300, 16384, 2147483647] _ (hr.keep ((Below.refl _ w1).alloc (by omega) _)) (by omega) (by omega) (by omega) (cells_ints hbk rfl 7 (by decide)) (by omega)).mono ?_
  rintro e w2 ⟨x, hx, rfl, hr2, ho2⟩
  have b2 := draw_of_only (b1.alloc (by omega) (.cells #[.int .i64 0, .int .i64 1, .int .i64 127, .int .i64 128, .int .i64 300, .int .i64 16384, .int .i64 2147483647] 3)) (Nat.le_refl _) ho2
  generalize ([0, 1, 127, 128, 300, 16384, 2147483647] : List Int).getD x 0 = n
  clear hbk ho2 b1 hr hlt1 hx
  have hlt2 := hr2.lt
  go_wp2_with fail
  refine (specVarPut n _).mono ?_
  rintro e w3 ⟨rfl, b3⟩
  have hr3 := hr2.keep (b3.mono (by omega))
  have b13 := b2.trans (b3.mono (by omega))
  have hlt3 := hr3.lt
  have hvl : (varPut n).length ≤ 5 := by
    unfold varPut
    split
    · have := varB_length 4 n.toNat; omega
    · simp
  clear hr2 b2 b3 hlt2
  go_wp2_with fail
  have hbk3 := heap_alloc_new w3 (.cells #[.string ⟨#[]⟩, .string ⟨#[120]⟩, .string ⟨#[0]⟩] 9)
  refine (of_walk w.heap.size w.heap.size 1 w3.heap.size 3 3 [⟨#[]⟩, ⟨#[120]⟩, ⟨#[0]⟩] _ (hr3.keep ((Below.refl _ w3).alloc (by omega) _)) (by omega) (by omega) (by omega) (cells_texts hbk3 rfl 3 (by decide)) (by omega)).mono ?_
  rintro e w4 ⟨y, hy, rfl, hr4, ho4⟩
  have b4 := draw_of_only (b13.alloc (by omega) (.cells #[.string ⟨#[]⟩, .string ⟨#[120]⟩, .string ⟨#[0]⟩] 9)) (Nat.le_refl _) ho4
  have hsz : ∀ i, (([⟨#[]⟩, ⟨#[120]⟩, ⟨#[0]⟩] : List ByteArray).getD i ByteArray.empty).size ≤ 1 := by
    intro i
    match i with
    | 0 => decide
    | 1 => decide
    | 2 => decide
    | i + 3 => show ByteArray.empty.size ≤ 1; decide
  have hsy := hsz y
  generalize ([⟨#[]⟩, ⟨#[120]⟩, ⟨#[0]⟩] : List ByteArray).getD y ByteArray.empty = t at hsy ⊢
  clear hbk3 ho4 b13 hr3 hlt3 hy hsz
  have hlt4 := hr4.lt
  have hadd : (⟨(varPut n).toArray⟩ : ByteArray).size + t.size ≤ 6 := by show (varPut n).toArray.size + t.size ≤ 6; simp; omega
  go_wp2_with fail
  refine (pick_walk w.heap.size w.heap.size 2 3 _ hr4 (by omega) (by omega)).mono ?_
  rintro e w5 ⟨z, rfl, _, _, hr5, ho5⟩
  have b5 := draw_of_only b4 (Nat.le_refl _) ho5
  have hlt5 := hr5.lt
  by_cases hz : ((z : Int) == 0) = true
  · go_wp2_with fail
    have hbk5 := heap_alloc_new w5 (.cells #[.string ⟨#[]⟩, .string ⟨#[128]⟩, .string ⟨#[128, 0]⟩, .string ⟨#[255, 255, 255, 255, 7]⟩, .string ⟨#[255, 255, 255, 255, 8]⟩, .string ⟨#[128, 128, 128, 128, 128]⟩, .string ⟨#[129, 0]⟩] 9)
    refine (of_walk w.heap.size w.heap.size 3 w5.heap.size 7 7 [⟨#[]⟩, ⟨#[128]⟩, ⟨#[128, 0]⟩, ⟨#[255, 255, 255, 255, 7]⟩, ⟨#[255, 255, 255, 255, 8]⟩, ⟨#[128, 128, 128, 128, 128]⟩, ⟨#[129, 0]⟩] _ (hr5.keep ((Below.refl _ w5).alloc (by omega) _)) (by omega) (by omega) (by omega) (cells_texts hbk5 rfl 7 (by decide)) (by omega)).mono ?_
    rintro e w6 ⟨v, hv, rfl, hr6, ho6⟩
    have b6 := draw_of_only (b5.alloc (by omega) (.cells #[.string ⟨#[]⟩, .string ⟨#[128]⟩, .string ⟨#[128, 0]⟩, .string ⟨#[255, 255, 255, 255, 7]⟩, .string ⟨#[255, 255, 255, 255, 8]⟩, .string ⟨#[128, 128, 128, 128, 128]⟩, .string ⟨#[129, 0]⟩] 9)) (Nat.le_refl _) ho6
    have hsv : (([⟨#[]⟩, ⟨#[128]⟩, ⟨#[128, 0]⟩, ⟨#[255, 255, 255, 255, 7]⟩, ⟨#[255, 255, 255, 255, 8]⟩, ⟨#[128, 128, 128, 128, 128]⟩, ⟨#[129, 0]⟩] : List ByteArray).getD v ByteArray.empty).size ≤ 5 := by
      match v, hv with
      | 0, _ => decide
      | 1, _ => decide
      | 2, _ => decide
      | 3, _ => decide
      | 4, _ => decide
      | 5, _ => decide
      | 6, _ => decide
    generalize ([⟨#[]⟩, ⟨#[128]⟩, ⟨#[128, 0]⟩, ⟨#[255, 255, 255, 255, 7]⟩, ⟨#[255, 255, 255, 255, 8]⟩, ⟨#[128, 128, 128, 128, 128]⟩, ⟨#[129, 0]⟩] : List ByteArray).getD v ByteArray.empty = q at hsv ⊢
    go_wp2
    go_ret
    exact ⟨q, rfl, by omega, b6⟩
  · have hz' : ((z : Int) == 0) = false := by simpa using hz
    go_wp2
    go_ret
    refine ⟨_, rfl, ?_, b5⟩
    rw [ByteArray.size_append]
    omega

set_option maxHeartbeats 1000000 in
set_option maxRecDepth 100000 in
theorem walk_FnVarGet (a0 : Option Addr) (len0 cap0 : Nat) (z0 : List Int) (w : World) (h0 : IsRow .u8 w a0 len0 cap0 z0) :
    Calls Try.prog 6 #[.slice a0 len0 cap0] w fun e w' => e = .returned (.bool true) ∧ Below w.heap.size w w' := by
  by_cases hl0 : (1048576 : Int) < (len0 : Int)
  · go_enter Try.func6, Try.ntmps6
    go_wp2
    go_ret
    exact ⟨rfl, Below.refl _ _⟩
  go_enter Try.func6, Try.ntmps6
  go_wp2_with fail
  refine (drawVarGet a0 len0 cap0 z0 _ h0).mono ?_
  rintro e w1 ⟨s, rfl, hs, b1⟩
  go_wp2_with fail
  refine (implVarGet s _ (by unfold maxLen; omega)).mono ?_
  rintro e w2 ⟨rfl, b2⟩
  have b12 := b1.trans (b2.mono b1.size)
  go_wp2_with fail
  refine (specVarGet s _ (by unfold maxLen; omega)).mono ?_
  rintro e w3 ⟨rfl, rfl⟩
  have hgot := varGet_got s.data.toList
  generalize (varGet s.data.toList).1 = n at hgot ⊢
  generalize (varGet s.data.toList).2 = k at hgot ⊢
  by_cases hk : k = 0
  · subst hk
    clear hgot
    go_wp2
    go_ret
    exact ⟨rfl, b12⟩
  · have hk' : ((k : Int) == 0) = false := by simp; omega
    have hgot := hgot.resolve_left hk
    have hks : (k : Int) ≤ (s.size : Int) := by have := hgot.2; simp at this; omega
    have hk0 : (0 : Int) ≤ (k : Int) := by omega
    have hcmp : (varPut (n : Int) == (s.extract 0 k).toList) = true := by rw [take_text, hgot.1]; simp
    clear hgot hk
    go_wp2_with fail
    go_region_with (go_at_call 10; refine (implVarPut _ _).mono ?_; rintro e w4 ⟨rfl, b4⟩)
    all_goals
      go_wp2
      go_ret
      exact ⟨rfl, b12.trans ((Below.drew (Below.refl _ _)).trans b4 |>.mono b12.size)⟩

end Go.Proofs.Ytimknohdclnihaa
