/-
  What the specification draws for RiceGet.
-/
import Derived.Test.YteihpdnbehnnhaaDraw5
import Derived.Test.YteihpdnbehnnhaaRiceR
set_option linter.unusedVariables false
namespace Go.Proofs.Yteihpdnbehnnhaa
open Go.RowKit

theorem lowB_len (x : Nat) : ∀ k, (lowB x k).length = k := by
  intro k
  induction k with
  | zero => rfl
  | succ k ih => simp [lowB, ih]
theorem bitsOf_len (k : Nat) (hk : k ≤ 8) (l : List Nat) (h : ∀ x ∈ l, x ≤ 60000) : (bitsOf k l).length ≤ 60009 * l.length := by
  induction l with
  | nil => simp [bitsOf]
  | cons x r ih =>
    have e : bitsOf k (x :: r) = numB k x ++ bitsOf k r := by simp [bitsOf]
    have h1 := h x (by simp)
    have h2 := ih (fun y hy => h y (by simp [hy]))
    have h3 : x / 2 ^ k ≤ x := Nat.div_le_self _ _
    rw [e, List.length_append, List.length_cons]
    have h4 : (numB k x).length ≤ 60009 := by
      simp [numB, lowB_len]
      omega
    omega
theorem ricePut_len (ns : List Int) (k : Int) : (ricePut ns k).length ≤ 300100 := by
  cases hr : riceOkB ns k with
  | false => rw [ricePut_no hr]; simp
  | true =>
    rw [ricePut_yes hr]
    have hb := riceOk_bits hr
    have hn := riceOk_len hr
    obtain ⟨z, hz, hu⟩ := unpack_rice k.toNat (ns.map Int.toNat)
    have h1 := unpack_length (riceB k.toNat (ns.map Int.toNat))
    rw [hu, List.length_append, List.length_replicate] at h1
    have h2 := bitsOf_len k.toNat (by omega) (ns.map Int.toNat) (by
      intro x hx
      obtain ⟨y, hy, rfl⟩ := List.mem_map.1 hx
      obtain ⟨i, hi, rfl⟩ := List.mem_iff_getElem.1 hy
      have := riceOk_at hr i hi
      rw [List.getD_eq_getElem?_getD, List.getElem?_eq_getElem hi] at this
      simp at this
      omega)
    simp at h2
    omega

def bits4 : List Int := [0, 2, 5, 8]
def more6 : List Int := [0, 0, 0, 0, 1, -1]
theorem more6_in : ∀ i : Fin 6, -1 ≤ more6.getD i.val 0 ∧ more6.getD i.val 0 ≤ 1 := by decide
set_option maxHeartbeats 1000000 in
set_option maxRecDepth 100000 in
theorem drawRiceGet (a : Option Addr) (len cap : Nat) (zs : List Int) (w : World) (h : IsRow .u8 w a len cap zs) :
    Calls Try.prog 19 #[.slice a len cap] w fun e w' => ∃ (s : ByteArray) (m k : Int), e = .returned (.tuple #[.string s, .int .i64 m, .int .i64 k]) ∧ s.size ≤ 300101 ∧ Below w.heap.size w w' := by
  go_enter Try.func19, Try.ntmps19
  go_wp2_with fail
  refine (open_walk a len cap zs _ h).mono ?_
  rintro e w1 ⟨rfl, hr, b1, hs1⟩
  have hlt1 := hr.lt
  clear hs1
  go_wp2_with fail
  refine (drawNumbers w.heap.size w.heap.size 0 _ hr (by omega)).mono ?_
  rintro e w2 ⟨v, ns, q, rfl, hz, hl, hq, hr2, b2⟩
  obtain ⟨g, c, rfl⟩ := hz.1
  have hlt2 := hr2.lt
  have HAT : Hid (At w2 g ns) := hz.at.1
  have HGE : Hid (w1.heap.size ≤ g) := by obtain ⟨g', _, _, hv, h1, _⟩ := hz.block; cases hv; exact h1
  have HB : Hid (Below w.heap.size w w2) := b1.trans b2
  obtain ⟨nl, hnl⟩ : ∃ nl, nl = ns.length := ⟨_, rfl⟩
  have HNL : Hid (nl = ns.length) := hnl
  rw [← hnl] at hl ⊢
  clear b1 b2 hr hz hnl
  have hbk := heap_alloc_new w2 (.cells (bits4.map (Value.int .i64)).toArray 3)
  have hone := one_walk w.heap.size w.heap.size q w2.heap.size 4 4 bits4 _ (hr2.keep ((Below.refl _ w2).alloc (by omega) _)) (by omega) (by omega) (by omega) (cells_ints hbk rfl 4 (by decide)) (by omega)
  clear hbk hr2
  go_wp2_with fail
  refine hone.mono ?_
  rintro e w3 ⟨y, hy, rfl, hr3, ho3⟩
  generalize bits4.getD y 0 = k
  have HB3 : Hid (Below w.heap.size w w3) := (HB.out.alloc (by omega) _).trans (ho3.below (Nat.le_refl _))
  have HAT3 : Hid (At w3 g ns) := by
    refine ⟨by rw [ho3.size]; simp; have := HAT.out.1; omega, fun i hi => ?_⟩
    rw [World.cell?_of_block (w := w2) (a := ⟨g, i, none⟩) ((ho3.block g (by have := HGE.out; omega)).trans (Below.heap_alloc _ _ _ HAT.out.1))]
    exact HAT.out.2 i hi
  have HR3 : Hid (Rd w.heap.size w.heap.size (q + 1) w3) := hr3
  have hlt3 := hr3.lt
  clear ho3 hr3 hone
  have hput := specRicePut g nl c ns k w3 HAT3.out HNL.out (by omega)
  have hpl := ricePut_len ns k
  generalize ricePut ns k = t at hput hpl
  go_wp2_with fail
  refine hput.mono ?_
  rintro e w4 ⟨rfl, b4⟩
  have HB4 : Hid (Below w.heap.size w w4) := HB3.out.trans (b4.mono (by omega))
  have HR4 : Hid (Rd w.heap.size w.heap.size (q + 1) w4) := HR3.out.keep (b4.mono (by omega))
  have hlt4 := HR4.out.lt
  clear b4 hput
  have hpk := pick_walk w.heap.size w.heap.size (q + 1) 3 w4 HR4.out (by omega) (by omega)
  go_wp2_with fail
  refine hpk.mono ?_
  rintro e w5 ⟨x, rfl, _, _, hr5, ho5⟩
  have HB5 : Hid (Below w.heap.size w w5) := HB4.out.trans (ho5.below (Nat.le_refl _))
  have HR5 : Hid (Rd w.heap.size w.heap.size (q + 1 + 1) w5) := hr5
  have hlt5 := hr5.lt
  clear hpk hr5 ho5
  have fin : ∀ (q6 : Nat) (w6 : World), q6 ≤ q + 10 → Rd w.heap.size w.heap.size q6 w6 → Below w.heap.size w w6 → Calls Try.prog 36 #[.pointer (some ⟨w.heap.size, 0, none⟩), .slice (some ⟨w6.heap.size, 0, none⟩) 6 6] (w6.alloc (.cells (more6.map (Value.int .i64)).toArray 3)) fun e w' => ∃ z : Int, e = .returned (.int .i64 z) ∧ -1 ≤ z ∧ z ≤ 1 ∧ Below w.heap.size w w' := by
    intro q6 w6 hq6 hr6 hb6
    have hl6 := hr6.lt
    have hbk := heap_alloc_new w6 (.cells (more6.map (Value.int .i64)).toArray 3)
    refine (one_walk w.heap.size w.heap.size q6 w6.heap.size 6 6 more6 _ (hr6.keep ((Below.refl _ w6).alloc (by omega) _)) (by omega) (by omega) (by omega) (cells_ints hbk rfl 6 (by decide)) (by omega)).mono ?_
    rintro e w7 ⟨y, hy, rfl, hr7, ho7⟩
    have := more6_in ⟨y, hy⟩
    exact ⟨_, rfl, this.1, this.2, (hb6.alloc (by omega) _).trans (ho7.below (Nat.le_refl _))⟩
  have HF : Hid (∀ (q6 : Nat) (w6 : World), q6 ≤ q + 10 → Rd w.heap.size w.heap.size q6 w6 → Below w.heap.size w w6 → Calls Try.prog 36 #[.pointer (some ⟨w.heap.size, 0, none⟩), .slice (some ⟨w6.heap.size, 0, none⟩) 6 6] (w6.alloc (.cells (more6.map (Value.int .i64)).toArray 3)) fun e w' => ∃ z : Int, e = .returned (.int .i64 z) ∧ -1 ≤ z ∧ z ≤ 1 ∧ Below w.heap.size w w') := fin
  clear fin
  by_cases hx : ((x : Int) == 0) = true
  · go_wp2_with fail
    refine (drawBent w.heap.size w.heap.size (q + 1 + 1) ⟨t.toArray⟩ _ HR5.out (by omega) (by simp [ByteArray.size]; omega)).mono ?_
    rintro e w6 ⟨s, q6, rfl, hs6, hq6, hr6, b6⟩
    have hs7 : s.size ≤ 300101 := by
      have e : (⟨t.toArray⟩ : ByteArray).size = t.length := by simp [ByteArray.size]
      rw [e] at hs6
      omega
    have HR6 : Hid (Rd w.heap.size w.heap.size q6 w6) := hr6
    have HB6 : Hid (Below w.heap.size w w6) := HB5.out.trans b6
    clear hr6 b6 hs6
    go_wp2_with fail
    refine (HF.out q6 w6 (by omega) HR6.out HB6.out).mono ?_
    rintro e w7 ⟨z, rfl, hz0, hz1, hb7⟩
    go_wp2_with fail
    go_ret3
    exact ⟨s, _, k, rfl, hs7, hb7⟩
  · have hx' : ((x : Int) == 0) = false := by simpa using hx
    clear hx
    go_wp2_with fail
    refine (HF.out (q + 1 + 1) w5 (by omega) HR5.out HB5.out).mono ?_
    rintro e w7 ⟨z, rfl, hz0, hz1, hb7⟩
    go_wp2_with fail
    go_ret3
    exact ⟨_, _, k, rfl, by simp [ByteArray.size]; omega, hb7⟩

end Go.Proofs.Yteihpdnbehnnhaa
