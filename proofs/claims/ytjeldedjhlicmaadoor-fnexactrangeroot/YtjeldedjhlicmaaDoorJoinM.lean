/-
  strings.Join of some texts, at this program's numbers.
-/
import Derived.Test.YtjeldedjhlicmaaDoorJoinB
import Derived.Test.YtjeldedjhlicmaaDoorStrM
set_option linter.unusedVariables false
namespace Go.Proofs.YtjeldedjhlicmaaDoor
open Go.Shelf Go.RowKit

/-- The first, and of each of the next so many the sep and it. -/
def joinTo (xs : List ByteArray) (sep : List UInt8) (k : Nat) : List UInt8 := (xs.getD 0 ByteArray.empty).data.toList ++ ((xs.drop 1).take k).flatMap fun x => sep ++ x.data.toList
theorem joinTo_succ (xs : List ByteArray) (sep : List UInt8) (k : Nat) (h : k + 1 < xs.length) : joinTo xs sep (k + 1) = joinTo xs sep k ++ sep ++ (xs.getD (k + 1) ByteArray.empty).data.toList := by
  have e : (xs.drop 1).take (k + 1) = (xs.drop 1).take k ++ [xs.getD (k + 1) ByteArray.empty] := by
    rw [List.take_add_one, List.getElem?_drop, Nat.add_comm 1 k, List.getElem?_eq_getElem h, List.getD_eq_getElem?_getD, List.getElem?_eq_getElem h]
    rfl
  rw [joinTo, joinTo, e, List.flatMap_append, ← List.append_assoc]
  simp

theorem joinTo_zero (xs : List ByteArray) (sep : List UInt8) : joinTo xs sep 0 = (xs.getD 0 ByteArray.empty).data.toList := by simp [joinTo]
theorem joinTo_len (xs : List ByteArray) (h : ∀ i, i < xs.length → (xs.getD i ByteArray.empty).size ≤ 1000) : ∀ k, k < xs.length → (joinTo xs [32] k).length ≤ 1000 + 1001 * k
  | 0, hk => by
    rw [joinTo_zero]
    have := h 0 hk
    have e : (xs.getD 0 ByteArray.empty).data.toList.length = (xs.getD 0 ByteArray.empty).size := by simp
    omega
  | k + 1, hk => by
    rw [joinTo_succ xs [32] k hk]
    have h1 := joinTo_len xs h k (by omega)
    have h2 := h (k + 1) hk
    have e : (xs.getD (k + 1) ByteArray.empty).data.toList.length = (xs.getD (k + 1) ByteArray.empty).size := by simp
    simp only [List.length_append, List.length_cons, List.length_nil]
    omega

set_option maxHeartbeats 2000000 in
set_option maxRecDepth 100000 in
/-- Five texts, a blank between each two. -/
theorem joinW (g : Nat) (xs : List ByteArray) (w : World) (h : AtS w g xs) (hn : xs.length = 5) (hz : ∀ i, i < xs.length → (xs.getD i ByteArray.empty).size ≤ 1000) :
    Calls Tryd.prog 91 #[.slice (some ⟨g, 0, none⟩) 5 5, .string ⟨#[32]⟩] w fun e w' => e = .returned (.string ⟨(joinTo xs [32] 4).toArray⟩) ∧ Below w.heap.size w w' := by
  have HA : Hid (AtS w g xs) := h
  have HN : Hid (xs.length = 5) := hn
  have HZ : Hid (∀ i, i < xs.length → (xs.getD i ByteArray.empty).size ≤ 1000) := hz
  have ez : (⟨#[32]⟩ : ByteArray).size = 1 := rfl
  clear h hn hz
  go_enter Tryd.func91, Tryd.ntmps91
  go_wp2_with fail
  go_loopw [5, 41] (fun m i wr => ∃ (k : Nat) (x : Int), k ≤ 5 ∧ i = .int .i64 (k : Int) ∧ m = .int .i64 x ∧ 0 ≤ x ∧ x ≤ 10 + 1000 * (k : Int) ∧ w = wr) (fun _ i _ => 5 - (intOf i).toNat)
  case atStart => exact ⟨0, 4, by omega, rfl, rfl, by omega, by omega, rfl⟩
  case round =>
    obtain ⟨k, x, hk, rfl, rfl, hx0, hx1, rfl⟩ := hrel
    by_cases hlt : k < 5
    · have hkl : k < xs.length := by rw [HN.out]; exact hlt
      have hc := HA.out.2 k hkl
      have hs := HZ.out k hkl
      generalize xs.getD k ByteArray.empty = s at hc hs
      have lk : (k : Int) < 5 := by omega
      have hx2 : ¬ (9223372036854775807 : Int) - x < (s.size : Int) := by omega
      have hwx : IntKind.i64.wrap ((9223372036854775807 : Int) - x) = 9223372036854775807 - x := by rw [IntKind.wrap_i64]; omega
      have hwy : IntKind.i64.wrap (x + (s.size : Int)) = x + (s.size : Int) := by rw [IntKind.wrap_i64]; omega
      have HK : Hid (k + 1 ≤ 5) := hlt
      clear hkl
      go_wp2_with fail
      go_roundw
      case rel => exact ⟨k + 1, x + (s.size : Int), HK.out, by go_num, rfl, by omega, by omega, trivial⟩
      case measure => have := HK.out; simp [intOf]; omega
    · obtain rfl : k = 5 := by omega
      obtain ⟨xn, rfl⟩ : ∃ xn : Nat, x = (xn : Int) := ⟨x.toNat, by omega⟩
      have HA0 : Hid (AtS w g xs) := HA.out
      have hgw : g < w.heap.size := HA.out.1
      go_wp2_with fail
      refine (growB w.heap.size w.heap.size xn _ (Nat.le_refl _) (heap_alloc_new w _) (by simp) (by omega)).mono ?_
      rintro e w1 ⟨rfl, hbd, b1⟩
      have HBD : Hid (Lib.IsBuilderF 80 5 w.heap.size w.heap.size (Lib.byteCells []) w1) := .inr (Lib.BuilderAtF.of hbd)
      have HB1 : Hid (Below w.heap.size w w1) := ((Below.refl w.heap.size w).alloc (Nat.le_refl _) _).trans b1
      clear hbd b1
      have h0l : 0 < xs.length := by rw [HN.out]; decide
      have hc0 : w1.cell? ⟨g, 0, none⟩ = some (.string (xs.getD 0 ByteArray.empty)) := by
        rw [HB1.out.cell (p := ⟨g, 0, none⟩) hgw]
        exact HA0.out.2 0 h0l
      have hs0 := HZ.out 0 h0l
      have HJ0 : Hid (joinTo xs [32] 0 = (xs.getD 0 ByteArray.empty).data.toList) := joinTo_zero xs [32]
      have hsz1 := HB1.out.size
      generalize xs.getD 0 ByteArray.empty = s0 at hc0 hs0 HJ0
      go_wp2_with fail
      refine (writeString w.heap.size w.heap.size (Lib.byteCells []) s0 w1 HBD.out (by simp [Lib.byteCells]; omega) hsz1).mono ?_
      rintro e w2 ⟨rfl, hbd2, b2, _⟩
      have HBD2 : Hid (Lib.IsBuilderF 80 5 w.heap.size w.heap.size (Lib.byteCells (joinTo xs [32] 0)) w2) := by
        refine .inr ?_
        rw [HJ0.out]
        exact hbd2
      have HB2 : Hid (Below w.heap.size w w2) := HB1.out.trans b2
      clear hbd2 b2 hc0 h0l HJ0 HB1 HBD hsz1
      go_wp2_with fail
      go_loopw [65] (fun i wx => ∃ k : Nat, k ≤ 4 ∧ i = .int .i64 (k : Int) ∧ Hid (Lib.IsBuilderF 80 5 w.heap.size w.heap.size (Lib.byteCells (joinTo xs [32] k)) wx) ∧ Hid (Below w.heap.size w wx)) (fun i _ => 4 - (intOf i).toNat)
      case atStart => exact ⟨0, by omega, rfl, HBD2, HB2⟩
      case round =>
        clear HBD2 HB2
        obtain ⟨k, hk, rfl, HBD, HB⟩ := hrel
        by_cases hlt : k < 4
        · have hkl : k + 1 < xs.length := by rw [HN.out]; omega
          have hc : wr.cell? ⟨g, 1 + k, none⟩ = some (.string (xs.getD (k + 1) ByteArray.empty)) := by
            rw [HB.out.cell (p := ⟨g, 1 + k, none⟩) hgw, Nat.add_comm 1 k]
            exact HA0.out.2 (k + 1) hkl
          have hs := HZ.out (k + 1) hkl
          have hjl := joinTo_len xs HZ.out k (by omega)
          have HJ : Hid (joinTo xs [32] (k + 1) = joinTo xs [32] k ++ [32] ++ (xs.getD (k + 1) ByteArray.empty).data.toList) := joinTo_succ xs [32] k hkl
          generalize xs.getD (k + 1) ByteArray.empty = s at hc hs HJ
          generalize joinTo xs [32] k = t at hjl HBD HJ
          have lk : (k : Int) < 4 := by omega
          have HK : Hid (k + 1 ≤ 4) := hlt
          have hszx := HB.out.size
          clear hkl
          go_wp2_with fail
          refine (writeString w.heap.size w.heap.size (Lib.byteCells t) ⟨#[32]⟩ wr HBD.out (by simp [Lib.byteCells, ez]; omega) hszx).mono ?_
          rintro e w3 ⟨rfl, hbd3, b3, _⟩
          have HBD3 : Hid (Lib.IsBuilderF 80 5 w.heap.size w.heap.size (Lib.byteCells (t ++ [32])) w3) := by
            refine .inr ?_
            rw [Lib.byteCells_append]
            exact hbd3
          have HB3 : Hid (Below w.heap.size w w3) := HB.out.trans b3
          have hsz3 := HB3.out.size
          clear hbd3 b3 hc
          go_wp2_with fail
          refine (writeString w.heap.size w.heap.size (Lib.byteCells (t ++ [32])) s w3 HBD3.out (by simp [Lib.byteCells]; omega) hsz3).mono ?_
          rintro e w4 ⟨rfl, hbd4, b4, _⟩
          have HBD4 : Hid (Lib.IsBuilderF 80 5 w.heap.size w.heap.size (Lib.byteCells (joinTo xs [32] (k + 1))) w4) := by
            refine .inr ?_
            rw [HJ.out, Lib.byteCells_append]
            exact hbd4
          have HB4 : Hid (Below w.heap.size w w4) := HB3.out.trans b4
          clear hbd4 b4
          go_wp2_with fail
          go_roundw
          case rel => exact ⟨k + 1, HK.out, by go_num, HBD4, HB4⟩
          case measure => have := HK.out; simp [intOf]; omega
        · obtain rfl : k = 4 := by omega
          have hszx := HB.out.size
          go_wp2_with fail
          refine (Tryd.Builder_String_any_f w.heap.size w.heap.size (joinTo xs [32] 4) wr HBD.out hszx).mono ?_
          rintro e w5 ⟨rfl, _, b5⟩
          go_wp2_with fail
          go_ret
          exact ⟨rfl, HB.out.trans b5⟩

end Go.Proofs.YtjeldedjhlicmaaDoor
