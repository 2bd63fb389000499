/-
  Texts that the last part needs, joined.
-/
import Derived.Test.YtoifgpmbeicmnaaGreatDoorPart1
import Derived.Test.YtoifgpmbeicmnaaGreatDoorPart2
import Derived.Test.YtoifgpmbeicmnaaGreatDoorPart3
import Derived.Test.YtoifgpmbeicmnaaGreatDoorPart4
import Derived.Test.YtoifgpmbeicmnaaGreatDoorPart5
import Derived.Test.YtoifgpmbeicmnaaGreatDoorPart6
import Derived.Test.YtoifgpmbeicmnaaGreatDoorPart7
import Derived.Test.YtoifgpmbeicmnaaGreatDoorPart8
import Derived.Test.YtoifgpmbeicmnaaGreatDoorPart9
import Derived.Test.YtoifgpmbeicmnaaGreatDoorPart10
import Derived.Test.YtoifgpmbeicmnaaGreatDoorPart11
import Derived.Deep.RegionHeld3
import Derived.OwnWalk
import Derived.BigRegion
set_option linter.unusedVariables false
namespace Go.Proofs.YtoifgpmbeicmnaaGreatDoor
open Go.RowKit Go.Deep

theorem sameS (a b : ByteArray) : (a.toList == b.toList) = decide (a = b) := by
  rw [Bool.eq_iff_iff, beq_iff_eq, decide_eq_true_eq, ByteArray.toList_eq, ByteArray.toList_eq]
  constructor
  · intro h
    exact ByteArray.ext (by simpa using h)
  · intro h
    rw [h]
/-- What the k-th rule says. -/
def ruleB (l : List HeadV) (h : HeadV) : Nat → Bool
  | 0 => headOkB h
  | 1 => headMeets h
  | 2 => decide (h.diff = hardV l)
  | 3 => decide (h.prev = prevV l)
  | 4 => laterB l h.time
  | _ => decide (l.length < 20)
def ruleF : Nat → FuncId
  | 0 => 137
  | 1 => 138
  | 2 => 139
  | 3 => 141
  | 4 => 143
  | _ => 145
theorem upTo6 {k : Nat} (h : k < 6) : k = 0 ∨ k = 1 ∨ k = 2 ∨ k = 3 ∨ k = 4 ∨ k = 5 := by omega
theorem stands_all {l : List HeadV} {h : HeadV} (hr : ∀ k, k < 6 → ruleB l h k = true) : standsB l h = true := by
  have h0 := hr 0 (by decide)
  have h1 := hr 1 (by decide)
  have h2 := hr 2 (by decide)
  have h3 := hr 3 (by decide)
  have h4 := hr 4 (by decide)
  have h5 := hr 5 (by decide)
  simp only [ruleB] at h0 h1 h2 h3 h4 h5
  rw [standsB, fitsB, h0, h1, h2, h3, h4, h5]
  rfl
theorem stands_no {l : List HeadV} {h : HeadV} {k : Nat} (hk : k < 6) (hr : ruleB l h k = false) : standsB l h = false := by
  rw [standsB, fitsB]
  rcases upTo6 hk with rfl | rfl | rfl | rfl | rfl | rfl <;> simp only [ruleB] at hr <;> rw [hr] <;> simp

/-- What a rule needs: the heads ahead, which are ok, and the tables. -/
structure Ahead (g n : Nat) (l : List HeadV) (w : World) : Prop where
  at_ : AtHead w g l
  len : n = l.length
  max : n ≤ 1048576
  ok : ∀ i, i < l.length → headOkB (l.getD i default) = true
  k : RowG w shaK
  p : TabP w
theorem Ahead.below {g n : Nat} {l : List HeadV} {w w' : World} (h : Ahead g n l w) (hb : Below w.heap.size w w') : Ahead g n l w' :=
  ⟨h.at_.below hb h.at_.1, h.len, h.max, h.ok, h.k.below hb h.k.lt, TabP.below h.p hb (Nat.le_refl _)⟩

set_option maxHeartbeats 1000000 in
set_option maxRecDepth 100000 in
theorem implRule0 (g n cap : Nat) (l : List HeadV) (h : HeadV) (w : World) (hA : Ahead g n l w) :
    Calls Tryz.prog 137 #[.slice (some ⟨g, 0, none⟩) n cap, headVal h] w fun e w' => e = .returned (.bool (ruleB l h 0)) ∧ Below w.heap.size w w' := by
  have HA : Hid (Ahead g n l w) := hA
  have S0 : HSt w _ w.heap.size h.prev h.root h.time h.diff h.nonce := HSt.new w 25 h.prev h.root h.time h.diff h.nonce
  have hc := fun w' => implHeadOk h w'
  show Calls _ _ _ _ fun e w' => e = .returned (.bool (headOkB h)) ∧ _
  generalize headOkB h = b at hc ⊢
  unfold headVal
  clear hA
  go_enter Tryz.func137, Tryz.ntmps137
  go_wp2_with fail
  refine (hc _).mono ?_
  rintro e w1 ⟨rfl, b1⟩
  go_wp2_with fail
  go_ret
  exact ⟨rfl, (S0.call b1).2.1⟩

set_option maxHeartbeats 1000000 in
set_option maxRecDepth 100000 in
theorem implRule1 (g n cap : Nat) (l : List HeadV) (h : HeadV) (w : World) (hA : Ahead g n l w) :
    Calls Tryz.prog 138 #[.slice (some ⟨g, 0, none⟩) n cap, headVal h] w fun e w' => e = .returned (.bool (ruleB l h 1)) ∧ Below w.heap.size w w' := by
  have HA : Hid (Ahead g n l w) := hA
  have S0 : HSt w _ w.heap.size h.prev h.root h.time h.diff h.nonce := HSt.new w 25 h.prev h.root h.time h.diff h.nonce
  have hc := fun w' (hk : RowG w' shaK) (hp : TabP w') => implHeadMeets h w' hk hp
  show Calls _ _ _ _ fun e w' => e = .returned (.bool (headMeets h)) ∧ _
  generalize headMeets h = b at hc ⊢
  unfold headVal at hc ⊢
  clear hA
  go_enter Tryz.func138, Tryz.ntmps138
  go_wp2_with fail
  refine (hc _ (HA.out.below S0.2.1).k (HA.out.below S0.2.1).p).mono ?_
  rintro e w1 ⟨rfl, b1⟩
  go_wp2_with fail
  go_ret
  exact ⟨rfl, (S0.call b1).2.1⟩

set_option maxHeartbeats 1000000 in
set_option maxRecDepth 100000 in
theorem implRule2 (g n cap : Nat) (l : List HeadV) (h : HeadV) (w : World) (hA : Ahead g n l w) :
    Calls Tryz.prog 139 #[.slice (some ⟨g, 0, none⟩) n cap, headVal h] w fun e w' => e = .returned (.bool (ruleB l h 2)) ∧ Below w.heap.size w w' := by
  have HA : Hid (Ahead g n l w) := hA
  have S0 : HSt w _ w.heap.size h.prev h.root h.time h.diff h.nonce := HSt.new w 25 h.prev h.root h.time h.diff h.nonce
  have hc := fun w' (ha : Ahead g n l w') => implChainHard g n cap l w' ha.at_ ha.len ha.max ha.ok
  show Calls _ _ _ _ fun e w' => e = .returned (.bool (decide (h.diff = hardV l))) ∧ _
  generalize hardV l = b at hc ⊢
  unfold headVal
  clear hA
  go_enter Tryz.func139, Tryz.ntmps139
  go_wp2_with fail
  go_region_held3 (fun w' => w'.cell? ⟨w.heap.size, 0, none⟩ = some (.string h.prev) ∧ w'.cell? ⟨w.heap.size, 1, none⟩ = some (.string h.root) ∧ w'.cell? ⟨w.heap.size, 2, none⟩ = some (.int .i64 h.time) ∧ w'.cell? ⟨w.heap.size, 3, none⟩ = some (.int .i64 h.diff) ∧ w'.cell? ⟨w.heap.size, 4, none⟩ = some (.int .i64 h.nonce))
    (first | (with_reducible first | exact S2.out | exact S0.out | exact S0.drew.out) | go_keep)
    (first | (go_at_call 140; refine (hc _ (HA.out.below S0.drew.2.1)).mono ?_; rintro e w2 ⟨rfl, b2⟩; have S2 : HSt w w2 w.heap.size h.prev h.root h.time h.diff h.nonce := S0.drew.call b2))
  go_wp2_with fail
  go_ret
  exact ⟨rfl, S2.2.1⟩

set_option maxHeartbeats 1000000 in
set_option maxRecDepth 100000 in
theorem implRule3 (g n cap : Nat) (l : List HeadV) (h : HeadV) (w : World) (hA : Ahead g n l w) :
    Calls Tryz.prog 141 #[.slice (some ⟨g, 0, none⟩) n cap, headVal h] w fun e w' => e = .returned (.bool (ruleB l h 3)) ∧ Below w.heap.size w w' := by
  have HA : Hid (Ahead g n l w) := hA
  have S0 : HSt w _ w.heap.size h.prev h.root h.time h.diff h.nonce := HSt.new w 25 h.prev h.root h.time h.diff h.nonce
  have hc := fun w' (ha : Ahead g n l w') => implChainPrev g n cap l w' ha.at_ ha.len ha.max ha.ok ha.k ha.p
  show Calls _ _ _ _ fun e w' => e = .returned (.bool (decide (h.prev = prevV l))) ∧ _
  generalize prevV l = b at hc ⊢
  unfold headVal
  clear hA
  go_enter Tryz.func141, Tryz.ntmps141
  go_wp2_with fail
  go_region_held3 (fun w' => w'.cell? ⟨w.heap.size, 0, none⟩ = some (.string h.prev) ∧ w'.cell? ⟨w.heap.size, 1, none⟩ = some (.string h.root) ∧ w'.cell? ⟨w.heap.size, 2, none⟩ = some (.int .i64 h.time) ∧ w'.cell? ⟨w.heap.size, 3, none⟩ = some (.int .i64 h.diff) ∧ w'.cell? ⟨w.heap.size, 4, none⟩ = some (.int .i64 h.nonce))
    (first | (with_reducible first | exact S2.out | exact S0.out | exact S0.drew.out) | go_keep)
    (first | (go_at_call 142; refine (hc _ (HA.out.below S0.drew.2.1)).mono ?_; rintro e w2 ⟨rfl, b2⟩; have S2 : HSt w w2 w.heap.size h.prev h.root h.time h.diff h.nonce := S0.drew.call b2))
  go_wp2_with fail
  go_ret
  refine ⟨?_, S2.2.1⟩
  rw [← sameS]
  rfl

set_option maxHeartbeats 1000000 in
set_option maxRecDepth 100000 in
theorem implRule4 (g n cap : Nat) (l : List HeadV) (h : HeadV) (w : World) (hA : Ahead g n l w) :
    Calls Tryz.prog 143 #[.slice (some ⟨g, 0, none⟩) n cap, headVal h] w fun e w' => e = .returned (.bool (ruleB l h 4)) ∧ Below w.heap.size w w' := by
  have HA : Hid (Ahead g n l w) := hA
  have S0 : HSt w _ w.heap.size h.prev h.root h.time h.diff h.nonce := HSt.new w 25 h.prev h.root h.time h.diff h.nonce
  have hc := fun w' (ha : Ahead g n l w') => implChainLater g n cap h.time l w' ha.at_ ha.len ha.max
  show Calls _ _ _ _ fun e w' => e = .returned (.bool (laterB l h.time)) ∧ _
  generalize laterB l h.time = b at hc ⊢
  unfold headVal
  clear hA
  go_enter Tryz.func143, Tryz.ntmps143
  go_wp2_with fail
  refine (hc _ (HA.out.below S0.2.1)).mono ?_
  rintro e w1 ⟨rfl, b1⟩
  go_wp2_with fail
  go_ret
  exact ⟨rfl, (S0.call b1).2.1⟩

set_option maxHeartbeats 1000000 in
set_option maxRecDepth 100000 in
theorem implRule5 (g n cap : Nat) (l : List HeadV) (h : HeadV) (w : World) (hA : Ahead g n l w) :
    Calls Tryz.prog 145 #[.slice (some ⟨g, 0, none⟩) n cap, headVal h] w fun e w' => e = .returned (.bool (ruleB l h 5)) ∧ Below w.heap.size w w' := by
  have HA : Hid (Ahead g n l w) := hA
  have S0 : HSt w _ w.heap.size h.prev h.root h.time h.diff h.nonce := HSt.new w 25 h.prev h.root h.time h.diff h.nonce
  show Calls _ _ _ _ fun e w' => e = .returned (.bool (decide (l.length < 20))) ∧ _
  have HV : Hid (decide (l.length < 20) = decide ((n : Int) < 20)) := by show _ = _; rw [← hA.len, Bool.eq_iff_iff]; simp; omega
  unfold headVal
  clear hA
  go_enter Tryz.func145, Tryz.ntmps145
  go_wp2_with fail
  go_ret
  exact ⟨by rw [HV.out]; rfl, S0.2.1⟩

theorem implRule (g n cap : Nat) (l : List HeadV) (h : HeadV) (k : Nat) (hk : k < 6) (w : World) (hA : Ahead g n l w) :
    Calls Tryz.prog (ruleF k) #[.slice (some ⟨g, 0, none⟩) n cap, headVal h] w fun e w' => e = .returned (.bool (ruleB l h k)) ∧ Below w.heap.size w w' := by
  rcases upTo6 hk with rfl | rfl | rfl | rfl | rfl | rfl
  · exact implRule0 g n cap l h w hA
  · exact implRule1 g n cap l h w hA
  · exact implRule2 g n cap l h w hA
  · exact implRule3 g n cap l h w hA
  · exact implRule4 g n cap l h w hA
  · exact implRule5 g n cap l h w hA
/-- The six rules in memory. -/
def RulesAt (w : World) (g : Nat) : Prop := w.heap[g]? = some (.cells #[.func (.func 137) #[] #[], .func (.func 138) #[] #[], .func (.func 139) #[] #[], .func (.func 141) #[] #[], .func (.func 143) #[] #[], .func (.func 145) #[] #[]] 164 (0, 0))

set_option maxHeartbeats 1000000 in
set_option maxRecDepth 100000 in
theorem implChainRules (w : World) :
    Calls Tryz.prog 119 #[] w fun e w' => e = .returned (.slice (some ⟨w.heap.size, 0, none⟩) 6 6) ∧ RulesAt w' w.heap.size ∧ Below w.heap.size w w' := by
  go_enter Tryz.func119, Tryz.ntmps119
  go_wp2_with fail
  go_ret
  exact ⟨rfl, heap_alloc_new w _, (Below.refl _ w).alloc (Nat.le_refl _) _⟩

end Go.Proofs.YtoifgpmbeicmnaaGreatDoor

set_option linter.unusedVariables false
namespace Go.Proofs.YtoifgpmbeicmnaaGreatDoor
open Go.RowKit Go.Deep

/-- The error of a head at a place, if it has one. -/
def standE (b : Bool) (n : Nat) : Value := if b = true then .nilIface else .iface 105 (.agg #[.int .i64 ((n : Int) + 1)])
theorem RulesAt.lt {w : World} {g : Nat} (h : RulesAt w g) : g < w.heap.size := by
  rcases Nat.lt_or_ge g w.heap.size with h' | h'
  · exact h'
  · simp [RulesAt, Array.getElem?_eq_none h'] at h
theorem RulesAt.call {w w' : World} {g : Nat} (h : RulesAt w g) (hb : Below w.heap.size w w') : RulesAt w' g := by
  unfold RulesAt at h ⊢
  rw [hb.block g (RulesAt.lt h)]
  exact h
theorem RulesAt.cell {w : World} {g : Nat} (h : RulesAt w g) (k : Nat) (hk : k < 6) : w.cell? ⟨g, k, none⟩ = some (.func (.func (ruleF k)) #[] #[]) := by
  rw [Lib.cell_of_heap h]
  rcases upTo6 hk with rfl | rfl | rfl | rfl | rfl | rfl <;> rfl

set_option maxHeartbeats 1000000 in
set_option maxRecDepth 100000 in
theorem implChainStand (g n cap : Nat) (l : List HeadV) (h : HeadV) (w : World) (hA : Ahead g n l w) :
    Calls Tryz.prog 100 #[.slice (some ⟨g, 0, none⟩) n cap, headVal h] w fun e w' => e = .returned (standE (standsB l h) n) ∧ Below w.heap.size w w' := by
  have HA : Hid (Ahead g n l w) := hA
  have hm := hA.max
  have hw1 : IntKind.i64.wrap ((n : Int) + 1) = (n : Int) + 1 := by rw [IntKind.wrap_i64]; omega
  have HRU := fun (k : Nat) (hk : k < 6) (w' : World) (ha : Ahead g n l w') => implRule g n cap l h k hk w' ha
  have S0 : HSt w _ w.heap.size h.prev h.root h.time h.diff h.nonce := HSt.new w 25 h.prev h.root h.time h.diff h.nonce
  have HYE : Hid ((∀ k, k < 6 → ruleB l h k = true) → standE (standsB l h) n = .nilIface) := fun hr => by rw [stands_all hr]; rfl
  have HNO : Hid (∀ k, k < 6 → ruleB l h k = false → standE (standsB l h) n = .iface 105 (.agg #[.int .i64 ((n : Int) + 1)])) := fun k hk hr => by rw [stands_no hk hr]; rfl
  generalize standE (standsB l h) n = R at HYE HNO ⊢
  unfold headVal at HRU ⊢
  clear hA hm
  go_enter Tryz.func100, Tryz.ntmps100
  go_wp2_with fail
  refine (implChainRules _).mono ?_
  rintro e w1 ⟨rfl, r1, b1⟩
  have S1 : Hid (HSt w w1 w.heap.size h.prev h.root h.time h.diff h.nonce) := S0.call b1
  have R1 : Hid (RulesAt w1 (w.heap.size + 1)) := by
    have : RulesAt w1 (w.alloc (.cells #[.string h.prev, .string h.root, .int .i64 h.time, .int .i64 h.diff, .int .i64 h.nonce] 25)).heap.size := r1
    rwa [show (w.alloc (.cells #[.string h.prev, .string h.root, .int .i64 h.time, .int .i64 h.diff, .int .i64 h.nonce] 25)).heap.size = w.heap.size + 1 from by simp] at this
  clear S0 r1 b1
  go_wp2_with fail
  go_loopw [9] (fun i wr => ∃ k : Nat, k ≤ 6 ∧ i = .int .i64 (k : Int) ∧ Hid (HSt w wr w.heap.size h.prev h.root h.time h.diff h.nonce) ∧ Hid (RulesAt wr (w.heap.size + 1)) ∧ Hid (∀ q, q < k → ruleB l h q = true)) (fun i _ => 6 - (intOf i).toNat)
  case atStart => exact ⟨0, by omega, rfl, S1, R1, fun q hq => by omega⟩
  case round =>
    clear S1 R1
    obtain ⟨k, hk, rfl, S1, R1, HQ⟩ := hrel
    by_cases hlt : k < 6
    · have lk : (k : Int) < 6 := by omega
      have c := R1.out.cell k hlt
      obtain ⟨c0, c1, c2, c3, c4⟩ := S1.out.out
      have hru := HRU k hlt
      have HN2 := HNO.out k hlt
      have HN3 : Hid (ruleB l h k = false → R = .iface 105 (.agg #[.int .i64 ((n : Int) + 1)])) := HN2
      have HQ2 : Hid (ruleB l h k = true → ∀ q, q < k + 1 → ruleB l h q = true) := by
        intro h q hq
        rcases Nat.lt_or_ge q k with h' | h'
        · exact HQ.out q h'
        · obtain rfl : q = k := by omega
          exact h
      clear HRU HNO HYE HN2 HQ
      generalize ruleB l h k = b at hru HN3 HQ2
      have hf : ruleF k = 137 ∨ ruleF k = 138 ∨ ruleF k = 139 ∨ ruleF k = 141 ∨ ruleF k = 143 ∨ ruleF k = 145 := by
        rcases upTo6 hlt with rfl | rfl | rfl | rfl | rfl | rfl <;> decide
      generalize ruleF k = f at c hru hf
      rcases hf with rfl | rfl | rfl | rfl | rfl | rfl
      all_goals
        go_wp2_with fail
        refine (hru _ (HA.out.below S1.out.2.1)).mono ?_
        rintro e w2 ⟨rfl, b2⟩
        have S2 : Hid (HSt w w2 w.heap.size h.prev h.root h.time h.diff h.nonce) := S1.out.call b2
        have R2 : Hid (RulesAt w2 (w.heap.size + 1)) := R1.out.call b2
        clear c c0 c1 c2 c3 c4 S1 R1 hru
        cases b with
        | false =>
          have HV : Hid (R = .iface 105 (.agg #[.int .i64 ((n : Int) + 1)])) := HN3.out rfl
          clear HN3 HQ2
          go_wp2_with fail
          go_ret
          exact ⟨by rw [HV.out]; rfl, S2.out.2.1⟩
        | true =>
          have HQ3 : Hid (∀ q, q < k + 1 → ruleB l h q = true) := HQ2.out rfl
          have HK1 : Hid (k + 1 ≤ 6) := hlt
          clear HN3 HQ2
          go_wp2_with fail
          go_roundw
          case rel => exact ⟨k + 1, HK1.out, by go_num, S2, R2, HQ3⟩
          case measure => have := HK1.out; simp [intOf]; omega
    · obtain rfl : k = 6 := by omega
      have HV : Hid (R = .nilIface) := HYE.out HQ.out
      clear HYE HNO HRU
      go_wp2_with fail
      go_ret
      exact ⟨by rw [HV.out]; rfl, S1.out.2.1⟩

end Go.Proofs.YtoifgpmbeicmnaaGreatDoor

set_option linter.unusedVariables false
namespace Go.Proofs.YtoifgpmbeicmnaaGreatDoor
open Go.RowKit Go.Deep

/-- The first fault of heads. -/
def walkE (c : Nat) : Value := if c = 0 then .nilIface else .iface 105 (.agg #[.int .i64 (c : Int)])
/-- A list of heads in memory, and the tables. -/
structure Chain (g n cap : Nat) (l : List HeadV) (w : World) : Prop where
  at_ : AtHead w g l
  len : n = l.length
  max : n ≤ 1048576
  cap : n ≤ cap
  k : RowG w shaK
  p : TabP w
theorem Chain.below {g n cap : Nat} {l : List HeadV} {w w' : World} (h : Chain g n cap l w) (hb : Below w.heap.size w w') : Chain g n cap l w' :=
  ⟨h.at_.below hb h.at_.1, h.len, h.max, h.cap, h.k.below hb h.k.lt, TabP.below h.p hb (Nat.le_refl _)⟩
theorem Chain.ahead {g n cap : Nat} {l : List HeadV} {w : World} (h : Chain g n cap l w) {k : Nat} (hk : k < n) (hs : ∀ q, q < k → stepC l q = true) : Ahead g k (l.take k) w :=
  ⟨h.at_.take k, by rw [List.length_take, ← h.len]; omega, by have := h.max; omega, take_ok hs, h.k, h.p⟩
theorem Chain.take {g n cap : Nat} {l : List HeadV} {w : World} (h : Chain g n cap l w) {k : Nat} (hk : k ≤ n) : Chain g k cap (l.take k) w :=
  ⟨h.at_.take k, by rw [List.length_take, ← h.len]; omega, by have := h.max; omega, by have := h.cap; omega, h.k, h.p⟩

set_option maxHeartbeats 1000000 in
set_option maxRecDepth 100000 in
theorem implChainWalk (g n cap : Nat) (l : List HeadV) (w : World) (hC : Chain g n cap l w) :
    Calls Tryz.prog 74 #[.slice (some ⟨g, 0, none⟩) n cap] w fun e w' => e = .returned (walkE (chainCk l)) ∧ Below w.heap.size w w' := by
  have HC : Hid (Chain g n cap l w) := hC
  have hm := hC.max
  have hcap := hC.cap
  have HGO : Hid ((∀ q, q < n → stepC l q = true) → walkE (chainCk l) = .nilIface) := fun hq => by rw [ck_good (by rw [← hC.len]; exact hq)]; rfl
  have HBA : Hid (∀ k, k < n → stepC l k = false → (∀ q, q < k → stepC l q = true) → walkE (chainCk l) = .iface 105 (.agg #[.int .i64 ((k : Int) + 1)])) := fun k hk hf hq => by
    rw [ck_bad (by rw [← hC.len]; exact hk) hf hq, walkE, if_neg (by omega)]
    rfl
  generalize walkE (chainCk l) = R at HGO HBA ⊢
  clear hC
  go_enter Tryz.func74, Tryz.ntmps74
  go_wp2_with fail
  go_loopw [8] (fun i wr => ∃ k : Nat, k ≤ n ∧ i = .int .i64 (k : Int) ∧ Hid (Below w.heap.size w wr) ∧ Hid (∀ q, q < k → stepC l q = true)) (fun i _ => n - (intOf i).toNat)
  case atStart => exact ⟨0, by omega, rfl, Below.refl _ _, fun q hq => by omega⟩
  case round =>
    obtain ⟨k, hk, rfl, HB, HQ⟩ := hrel
    by_cases hlt : k < n
    · have HCr : Hid (Chain g n cap l wr) := HC.out.below HB.out
      have hkl : k < l.length := by rw [← HC.out.len]; exact hlt
      have c0 := AtHead.c0 HCr.out.at_ k hkl
      have c1 := AtHead.c1 HCr.out.at_ k hkl
      have c2 := AtHead.c2 HCr.out.at_ k hkl
      have c3 := AtHead.c3 HCr.out.at_ k hkl
      have c4 := AtHead.c4 HCr.out.at_ k hkl
      have lk : (k : Int) < (n : Int) := by omega
      have lk0 : (0 : Int) ≤ (k : Int) := by omega
      have lkc : (k : Int) ≤ (cap : Int) := by omega
      have hc0 : ¬ cap = 0 := by omega
      have HB2 := HBA.out k hlt
      have HBk : Hid (stepC l k = false → R = .iface 105 (.agg #[.int .i64 ((k : Int) + 1)])) := fun hf => HB2 hf HQ.out
      have HQ2 : Hid (stepC l k = true → ∀ q, q < k + 1 → stepC l q = true) := by
        intro h q hq
        rcases Nat.lt_or_ge q k with h' | h'
        · exact HQ.out q h'
        · obtain rfl : q = k := by omega
          exact h
      have hst := fun (w' : World) (hb : Below wr.heap.size wr w') => implChainStand g k cap (l.take k) (l.getD k default) w' ((HCr.out.below hb).ahead hlt HQ.out)
      have hsd : standsB (l.take k) (l.getD k default) = stepC l k := rfl
      rw [hsd] at hst
      clear hsd hkl HB2 HGO HBA HQ
      generalize stepC l k = b at hst HBk HQ2
      generalize l.getD k default = p at c0 c1 c2 c3 c4 hst
      unfold headVal at hst
      have HB3 : Hid (∀ w', Below wr.heap.size wr w' → Below w.heap.size w w') := fun w' hb => HB.out.trans (hb.mono HB.out.size)
      have S0 : HSt wr _ wr.heap.size p.prev p.root p.time p.diff p.nonce := HSt.new wr 25 p.prev p.root p.time p.diff p.nonce
      have HK1 : Hid (k + 1 ≤ n) := hlt
      go_wp2_with fail
      go_region_held3 (fun w' => w'.cell? ⟨wr.heap.size, 0, none⟩ = some (.string p.prev) ∧ w'.cell? ⟨wr.heap.size, 1, none⟩ = some (.string p.root) ∧ w'.cell? ⟨wr.heap.size, 2, none⟩ = some (.int .i64 p.time) ∧ w'.cell? ⟨wr.heap.size, 3, none⟩ = some (.int .i64 p.diff) ∧ w'.cell? ⟨wr.heap.size, 4, none⟩ = some (.int .i64 p.nonce))
        (first | (with_reducible first | exact S2.out | exact S0.out | exact S0.drew.out) | go_keep)
        (first | (go_at_call 100; refine (hst _ S0.drew.2.1).mono ?_; rintro e w2 ⟨rfl, b2⟩; have S2 : HSt wr w2 wr.heap.size p.prev p.root p.time p.diff p.nonce := S0.drew.call b2))
      have HB4 : Hid (Below w.heap.size w w2) := HB3.out _ S2.2.1
      clear S0 S2 b2 hst c0 c1 c2 c3 c4
      cases b with
      | false =>
        have HV : Hid (R = .iface 105 (.agg #[.int .i64 ((k : Int) + 1)])) := HBk.out rfl
        clear HBk HQ2
        have es : standE false k = .iface 105 (.agg #[.int .i64 ((k : Int) + 1)]) := rfl
        rw [es]
        go_wp2_with fail
        go_ret
        exact ⟨by rw [HV.out]; rfl, HB4.out⟩
      | true =>
        have HQ3 : Hid (∀ q, q < k + 1 → stepC l q = true) := HQ2.out rfl
        clear HBk HQ2
        have es : standE true k = .nilIface := rfl
        rw [es]
        go_wp2_with fail
        go_roundw
        case rel => exact ⟨k + 1, HK1.out, by go_num, HB4, HQ3⟩
        case measure => have := HK1.out; simp [intOf]; omega
    · obtain rfl : k = n := by omega
      have HV : Hid (R = .nilIface) := HGO.out HQ.out
      clear HGO HBA
      go_wp2_with fail
      go_ret
      exact ⟨by rw [HV.out]; rfl, HB.out⟩

set_option maxHeartbeats 1000000 in
set_option maxRecDepth 100000 in
theorem implChainCheck (g n cap : Nat) (l : List HeadV) (w : World) (hC : Chain g n cap l w) (hE : ErrT w) :
    Calls Tryz.prog 42 #[.slice (some ⟨g, 0, none⟩) n cap] w fun e w' => e = .returned (.int .i64 (chainCk l : Int)) ∧ Below w.heap.size w w' := by
  have HC : Hid (Chain g n cap l w) := hC
  have HE : Hid (ErrT w) := hE
  have hwk := fun w' (h : Chain g n cap l w') => implChainWalk g n cap l w' h
  have B0 : Below w.heap.size w (w.alloc (.cells #[.int .i64 0] 105)) := (Below.refl _ w).alloc (Nat.le_refl _) _
  have F0 : Hid ((w.alloc (.cells #[.int .i64 0] 105)).heap[w.heap.size]? = some (.cells #[.int .i64 0] 105 (0, 0))) := heap_alloc_new w _
  generalize chainCk l = c at hwk ⊢
  clear hC hE
  by_cases hc : c = 0
  · subst hc
    have es : walkE 0 = .nilIface := rfl
    rw [es] at hwk
    go_enter Tryz.func42, Tryz.ntmps42
    go_wp2_with fail
    refine (hwk _ (HC.out.below B0)).mono ?_
    rintro e w1 ⟨rfl, b1⟩
    have B1 : Hid (Below w.heap.size w w1) := B0.trans (b1.mono B0.size)
    clear b1 B0 F0
    go_wp2_with fail
    refine (as_nil _ _).mono ?_
    rintro e w2 ⟨rfl, rfl⟩
    go_wp2_with fail
    go_ret
    exact ⟨rfl, B1.out⟩
  · have es : walkE c = .iface 105 (.agg #[.int .i64 (c : Int)]) := by rw [walkE, if_neg hc]
    rw [es] at hwk
    clear es hc
    go_enter Tryz.func42, Tryz.ntmps42
    go_wp2_with fail
    refine (hwk _ (HC.out.below B0)).mono ?_
    rintro e w1 ⟨rfl, b1⟩
    have B1 : Hid (Below w.heap.size w w1) := B0.trans (b1.mono B0.size)
    have F1 : Hid (w1.heap[w.heap.size]? = some (.cells #[.int .i64 0] 105 (0, 0))) := by
      show _ = _
      rw [b1.block w.heap.size (by simp)]
      exact F0.out
    clear b1 B0 F0
    go_wp2_with fail
    refine (as_hit w.heap.size 105 (c : Int) (.int .i64 0) w1 (HE.out.below B1.out HE.out.lt) F1.out).mono ?_
    rintro e w2 ⟨rfl, f2, b2⟩
    have B2 : Hid (Below w.heap.size w w2) := B1.out.trans (b2 _ (Nat.le_refl _))
    have c2 : w2.cell? ⟨w.heap.size, 0, none⟩ = some (.int .i64 (c : Int)) := by rw [Lib.cell_of_heap f2]; rfl
    clear f2 b2
    go_wp2_with fail
    go_ret
    exact ⟨rfl, B2.out⟩

end Go.Proofs.YtoifgpmbeicmnaaGreatDoor

set_option linter.unusedVariables false
namespace Go.Proofs.YtoifgpmbeicmnaaGreatDoor
open Go.RowKit Go.Deep

/-- The heads ahead, as the specification needs them. -/
structure AheadS (g n : Nat) (l : List HeadV) (w : World) : Prop where
  at_ : AtHead w g l
  len : n = l.length
  max : n ≤ 1048576
  ok : ∀ i, i < l.length → headOkB (l.getD i default) = true
theorem AheadS.below {g n : Nat} {l : List HeadV} {w w' : World} (h : AheadS g n l w) (hb : Below w.heap.size w w') : AheadS g n l w' :=
  ⟨h.at_.below hb h.at_.1, h.len, h.max, h.ok⟩

set_option maxHeartbeats 1000000 in
set_option maxRecDepth 100000 in
theorem specL4Diff (g n cap : Nat) (l : List HeadV) (w : World) (hA : AheadS g n l w) :
    Calls Tryz.prog 91 #[.slice (some ⟨g, 0, none⟩) n cap] w fun e w' => e = .returned (.int .i64 (hardV l)) ∧ Below w.heap.size w w' := by
  have hn := hA.len
  have hm := hA.max
  have hok := hA.ok
  by_cases h0 : n = 0
  · have HV : Hid (hardV l = 1) := hard_0 (by omega)
    subst h0
    clear hA hn hok
    go_enter Tryz.func91, Tryz.ntmps91
    go_wp2_with fail
    go_ret
    exact ⟨by rw [HV.out]; rfl, Below.refl _ _⟩
  obtain ⟨j, hj⟩ : ∃ j, n = j + 1 := ⟨n - 1, by omega⟩
  have hjl : j < l.length := by omega
  have c0 := AtHead.c0 hA.at_ j hjl
  have c1 := AtHead.c1 hA.at_ j hjl
  have c2 := AtHead.c2 hA.at_ j hjl
  have c3 := AtHead.c3 hA.at_ j hjl
  have c4 := AtHead.c4 hA.at_ j hjl
  have HL : lastH l = l.getD j default := by rw [lastH, ← hn, hj, Nat.add_sub_cancel]
  have hgl := hA.at_.1
  have hw1 : IntKind.i64.wrap ((n : Int) - 1) = (j : Int) := by rw [IntKind.wrap_i64]; omega
  have lj : (j : Int) < (n : Int) := by omega
  have lj0 : (0 : Int) ≤ (j : Int) := by omega
  have hn0 : ¬ (n : Int) = 0 := by omega
  obtain ⟨_, _, ht, hd, _⟩ := headOk_in (hok j hjl)
  have hrem : (n : Int).tmod 4 = ((n % 4 : Nat) : Int) := rfl
  by_cases h4 : n % 4 = 0
  · obtain ⟨i, hi⟩ : ∃ i, n = i + 4 := ⟨n - 4, by omega⟩
    have hil : i < l.length := by omega
    have d2 := AtHead.c2 hA.at_ i hil
    obtain ⟨_, _, ht2, _⟩ := headOk_in (hok i hil)
    have HSP : spanH l = (l.getD j default).time - (l.getD i default).time := by rw [spanH, HL, ← hn, hi, Nat.add_sub_cancel]
    have hw4 : IntKind.i64.wrap ((n : Int) - 4) = (i : Int) := by rw [IntKind.wrap_i64]; omega
    have li : (i : Int) < (n : Int) := by omega
    have li0 : (0 : Int) ≤ (i : Int) := by omega
    have HLO : Hid (spanH l < 20 → hardV l = min ((l.getD j default).diff + 1) 8) := fun hs => by rw [hard_low (by omega) (by rw [← hn]; exact h4) hs, HL]
    have HHI : Hid (60 < spanH l → hardV l = max ((l.getD j default).diff - 1) 1) := fun hs => by rw [hard_high (by omega) (by rw [← hn]; exact h4) hs, HL]
    have HMI : Hid (¬ spanH l < 20 → ¬ 60 < spanH l → hardV l = (l.getD j default).diff) := fun h1 h2 => by rw [hard_mid (by omega) (by rw [← hn]; exact h4) h1 h2, HL]
    rw [HSP] at HLO HHI HMI
    rw [h4] at hrem
    generalize hardV l = H at HLO HHI HMI ⊢
    generalize l.getD j default = p at c0 c1 c2 c3 c4 ht hd HLO HHI HMI
    generalize l.getD i default = q at d2 ht2 HLO HHI HMI
    have hws : IntKind.i64.wrap (p.time - q.time) = p.time - q.time := by rw [IntKind.wrap_i64]; omega
    have hwa : IntKind.i64.wrap (p.diff + 1) = p.diff + 1 := by rw [IntKind.wrap_i64]; omega
    have hwb : IntKind.i64.wrap (p.diff - 1) = p.diff - 1 := by rw [IntKind.wrap_i64]; omega
    have f2 : w.drew.cell? ⟨g, j * 5 + 2, none⟩ = some (.int .i64 p.time) := c2
    have f4 : w.drew.cell? ⟨g, i * 5 + 2, none⟩ = some (.int .i64 q.time) := d2
    clear hA hok HL HSP hjl hil hn hj hi h0 h4 hm
    by_cases hs : p.time - q.time < 20
    · by_cases hd8 : p.diff < 8
      · have HV : Hid (H = p.diff + 1) := by have := HLO.out hs; show _ = _; omega
        clear HLO HHI HMI
        go_enter Tryz.func91, Tryz.ntmps91
        go_wp2_with fail
        go_big_region
        go_wp2_with fail
        go_ret
        exact ⟨by rw [HV.out]; rfl, (Below.refl _ _).drew⟩
      · have hs2 : ¬ 60 < p.time - q.time := by omega
        have HV : Hid (H = p.diff) := by have := HLO.out hs; show _ = _; omega
        clear HLO HHI HMI
        go_enter Tryz.func91, Tryz.ntmps91
        go_wp2_with fail
        go_big_region
        go_wp2_with fail
        go_ret
        exact ⟨by rw [HV.out]; rfl, (Below.refl _ _).drew⟩
    · by_cases hs2 : 60 < p.time - q.time
      · by_cases hd1 : 1 < p.diff
        · have HV : Hid (H = p.diff - 1) := by have := HHI.out hs2; show _ = _; omega
          clear HLO HHI HMI
          go_enter Tryz.func91, Tryz.ntmps91
          go_wp2_with fail
          go_big_region
          go_wp2_with fail
          go_ret
          exact ⟨by rw [HV.out]; rfl, (Below.refl _ _).drew⟩
        · have HV : Hid (H = p.diff) := by have := HHI.out hs2; show _ = _; omega
          clear HLO HHI HMI
          go_enter Tryz.func91, Tryz.ntmps91
          go_wp2_with fail
          go_big_region
          go_wp2_with fail
          go_ret
          exact ⟨by rw [HV.out]; rfl, (Below.refl _ _).drew⟩
      · have HV : Hid (H = p.diff) := HMI.out hs hs2
        clear HLO HHI HMI
        go_enter Tryz.func91, Tryz.ntmps91
        go_wp2_with fail
        go_big_region
        go_wp2_with fail
        go_ret
        exact ⟨by rw [HV.out]; rfl, (Below.refl _ _).drew⟩
  · have HV : Hid (hardV l = (l.getD j default).diff) := by show _ = _; rw [hard_odd (by omega) (by rw [← hn]; exact h4), HL]
    have hr4 : ¬ ((n % 4 : Nat) : Int) = 0 := by omega
    generalize hardV l = H at HV ⊢
    generalize n % 4 = r at hrem hr4
    generalize l.getD j default = p at c0 c1 c2 c3 c4 ht hd HV
    clear hA hok HL hjl hn hj h0 h4 hm
    go_enter Tryz.func91, Tryz.ntmps91
    go_wp2_with fail
    go_ret
    exact ⟨by rw [HV.out]; rfl, Below.refl _ _⟩

theorem specL4Zero (w : World) : Calls Tryz.prog 92 #[] w fun e w' => e = .returned (.string zeros16) ∧ w' = w := by
  go_enter Tryz.func92, Tryz.ntmps92
  go_wp2_with fail
  go_ret
  exact ⟨rfl, rfl⟩

theorem fits_no1 {l : List HeadV} {h : HeadV} (hk : headOkB h = false) : fitsB l h = false := by rw [fitsB, hk, Bool.false_and]
theorem fits_no2 {l : List HeadV} {h : HeadV} (hk : headMeets h = false) : fitsB l h = false := by rw [fitsB, hk]; simp
theorem fits_no3 {l : List HeadV} {h : HeadV} (hk : h.diff ≠ hardV l) : fitsB l h = false := by rw [fitsB, decide_eq_false hk]; simp
theorem fits_rest {l : List HeadV} {h : HeadV} (h1 : headOkB h = true) (h2 : headMeets h = true) (h3 : h.diff = hardV l) : fitsB l h = (decide (h.prev = prevV l) && laterB l h.time) := by
  rw [fitsB, h1, h2, decide_eq_true h3]; rfl

set_option linter.unusedSimpArgs false in
set_option maxHeartbeats 8000000 in
set_option maxRecDepth 100000 in
theorem specL4Fits (g n cap : Nat) (l : List HeadV) (h : HeadV) (w : World) (hA : AheadS g n l w) (hp : h.prev.size ≤ maxLen) (hr : h.root.size ≤ maxLen) :
    Calls Tryz.prog 66 #[.slice (some ⟨g, 0, none⟩) n cap, headVal h] w fun e w' => e = .returned (.bool (fitsB l h)) ∧ Below w.heap.size w w' := by
  have HA : Hid (AheadS g n l w) := hA
  have hck := fun w' => specL3Ok h w' hp hr
  have hdf := fun w' (ha : AheadS g n l w') => specL4Diff g n cap l w' ha
  have S0 : HSt w _ w.heap.size h.prev h.root h.time h.diff h.nonce := HSt.new w 25 h.prev h.root h.time h.diff h.nonce
  cases hok : headOkB h with
  | false =>
    have HV : Hid (fitsB l h = false) := fits_no1 hok
    rw [hok] at hck
    unfold headVal
    clear hA hp hr hok
    go_enter Tryz.func66, Tryz.ntmps66
    go_wp2_with fail
    refine wp_region_noPanic ?_
    refine wp_region_held_drew (S := fun w' => w'.cell? ⟨w.heap.size, 0, none⟩ = some (.string h.prev) ∧ w'.cell? ⟨w.heap.size, 1, none⟩ = some (.string h.root) ∧ w'.cell? ⟨w.heap.size, 2, none⟩ = some (.int .i64 h.time) ∧ w'.cell? ⟨w.heap.size, 3, none⟩ = some (.int .i64 h.diff) ∧ w'.cell? ⟨w.heap.size, 4, none⟩ = some (.int .i64 h.nonce)) (by kernel_rfl) (S0.drew.out) (fun hHeld => ?_)
    refine takeL 0 (v := ?_) rfl (by kernel_rfl) (by kernel_rfl) (by kernel_rfl) (fun _ _ _ h => h) (by kernel_rfl) ?_ (by assumption) ?_
    rotate_left
    · intro w hSw; (try dsimp only at hSw); first | (go_simp; done) | (go_simp; with_reducible rfl)
    try simp only [Act.put, List.setIfInBounds_toArray, List.set_cons_zero, List.set_cons_succ]
    refine callL 1 rfl (by kernel_rfl) (fun K hK => ?_)
    go_simp
    refine (hck _).mono ?_
    rintro e w1 ⟨rfl, b1⟩
    have S1 : Hid (HSt w w1 w.heap.size h.prev h.root h.time h.diff h.nonce) := S0.drew.call b1
    go_wp2_with fail
    refine hK.out _ _ ?_ (fun hHeld => ?_)
    · first | (with_reducible exact S3.out.out) | (with_reducible exact S2.out.out) | (with_reducible exact S1.out.out)
    clear hK K
    try simp only [Act.put, List.setIfInBounds_toArray, List.set_cons_zero, List.set_cons_succ]
    refine takeL 2 (v := ?_) rfl (by kernel_rfl) (by kernel_rfl) (by kernel_rfl) (fun _ _ _ h => h) (by kernel_rfl) ?_ (by assumption) ?_
    rotate_left
    · intro w hSw; (try dsimp only at hSw); first | (go_simp; done) | (go_simp; with_reducible rfl)
    try simp only [Act.put, List.setIfInBounds_toArray, List.set_cons_zero, List.set_cons_succ]
    refine takeL 3 (v := ?_) rfl (by kernel_rfl) (by kernel_rfl) (by kernel_rfl) (fun _ _ _ h => h) (by kernel_rfl) ?_ (by assumption) ?_
    rotate_left
    · intro w hSw; (try dsimp only at hSw); first | (go_simp; done) | (go_simp; with_reducible rfl)
    try simp only [Act.put, List.setIfInBounds_toArray, List.set_cons_zero, List.set_cons_succ]
    refine skipL 4 rfl (by kernel_rfl) (by kernel_rfl) (by kernel_rfl) (fun _ _ _ h => h) (by kernel_rfl) (by assumption) ?_
    try simp only [Act.put, List.setIfInBounds_toArray, List.set_cons_zero, List.set_cons_succ]
    refine skipL 5 rfl (by kernel_rfl) (by kernel_rfl) (by kernel_rfl) (fun _ _ _ h => h) (by kernel_rfl) (by assumption) ?_
    try simp only [Act.put, List.setIfInBounds_toArray, List.set_cons_zero, List.set_cons_succ]
    refine skipL 6 rfl (by kernel_rfl) (by kernel_rfl) (by kernel_rfl) (fun _ _ _ h => h) (by kernel_rfl) (by assumption) ?_
    try simp only [Act.put, List.setIfInBounds_toArray, List.set_cons_zero, List.set_cons_succ]
    refine skipL 7 rfl (by kernel_rfl) (by kernel_rfl) (by kernel_rfl) (fun _ _ _ h => h) (by kernel_rfl) (by assumption) ?_
    try simp only [Act.put, List.setIfInBounds_toArray, List.set_cons_zero, List.set_cons_succ]
    refine skipL 8 rfl (by kernel_rfl) (by kernel_rfl) (by kernel_rfl) (fun _ _ _ h => h) (by kernel_rfl) (by assumption) ?_
    try simp only [Act.put, List.setIfInBounds_toArray, List.set_cons_zero, List.set_cons_succ]
    refine takeL 9 (v := ?_) rfl (by kernel_rfl) (by kernel_rfl) (by kernel_rfl) (fun _ _ _ h => h) (by kernel_rfl) ?_ (by assumption) ?_
    rotate_left
    · intro w hSw; (try dsimp only at hSw); first | (go_simp; done) | (go_simp; with_reducible rfl)
    try simp only [Act.put, List.setIfInBounds_toArray, List.set_cons_zero, List.set_cons_succ]
    refine takeL 10 (v := ?_) rfl (by kernel_rfl) (by kernel_rfl) (by kernel_rfl) (fun _ _ _ h => h) (by kernel_rfl) ?_ (by assumption) ?_
    rotate_left
    · intro w hSw; (try dsimp only at hSw); first | (go_simp; done) | (go_simp; with_reducible rfl)
    try simp only [Act.put, List.setIfInBounds_toArray, List.set_cons_zero, List.set_cons_succ]
    refine skipL 11 rfl (by kernel_rfl) (by kernel_rfl) (by kernel_rfl) (fun _ _ _ h => h) (by kernel_rfl) (by assumption) ?_
    try simp only [Act.put, List.setIfInBounds_toArray, List.set_cons_zero, List.set_cons_succ]
    refine skipL 12 rfl (by kernel_rfl) (by kernel_rfl) (by kernel_rfl) (fun _ _ _ h => h) (by kernel_rfl) (by assumption) ?_
    try simp only [Act.put, List.setIfInBounds_toArray, List.set_cons_zero, List.set_cons_succ]
    refine skipL 13 rfl (by kernel_rfl) (by kernel_rfl) (by kernel_rfl) (fun _ _ _ h => h) (by kernel_rfl) (by assumption) ?_
    try simp only [Act.put, List.setIfInBounds_toArray, List.set_cons_zero, List.set_cons_succ]
    refine takeL 14 (v := ?_) rfl (by kernel_rfl) (by kernel_rfl) (by kernel_rfl) (fun _ _ _ h => h) (by kernel_rfl) ?_ (by assumption) ?_
    rotate_left
    · intro w hSw; (try dsimp only at hSw); first | (go_simp; done) | (go_simp; with_reducible rfl)
    try simp only [Act.put, List.setIfInBounds_toArray, List.set_cons_zero, List.set_cons_succ]
    refine wpAnyH_done (by kernel_rfl) ?_ _
    refine NoPanic.normal ?_
    go_wp2_with fail
    go_ret
    exact ⟨by rw [HV.out]; rfl, S1.out.2.1⟩
  | true =>
    have hmt := fun w' => specL3Meets h w' hok
    by_cases hdi : h.diff = hardV l
    · cases hme : headMeets h with
      | false =>
        have HV : Hid (fitsB l h = false) := fits_no2 hme
        rw [hok] at hck
        rw [hme] at hmt
        unfold headVal at hmt ⊢
        rw [← hdi] at hdf
        clear hA hp hr hok hme hdi
        go_enter Tryz.func66, Tryz.ntmps66
        go_wp2_with fail
        refine wp_region_noPanic ?_
        refine wp_region_held_drew (S := fun w' => w'.cell? ⟨w.heap.size, 0, none⟩ = some (.string h.prev) ∧ w'.cell? ⟨w.heap.size, 1, none⟩ = some (.string h.root) ∧ w'.cell? ⟨w.heap.size, 2, none⟩ = some (.int .i64 h.time) ∧ w'.cell? ⟨w.heap.size, 3, none⟩ = some (.int .i64 h.diff) ∧ w'.cell? ⟨w.heap.size, 4, none⟩ = some (.int .i64 h.nonce)) (by kernel_rfl) (S0.drew.out) (fun hHeld => ?_)
        refine takeL 0 (v := ?_) rfl (by kernel_rfl) (by kernel_rfl) (by kernel_rfl) (fun _ _ _ h => h) (by kernel_rfl) ?_ (by assumption) ?_
        rotate_left
        · intro w hSw; (try dsimp only at hSw); first | (go_simp; done) | (go_simp; with_reducible rfl)
        try simp only [Act.put, List.setIfInBounds_toArray, List.set_cons_zero, List.set_cons_succ]
        refine callL 1 rfl (by kernel_rfl) (fun K hK => ?_)
        go_simp
        refine (hck _).mono ?_
        rintro e w1 ⟨rfl, b1⟩
        have S1 : Hid (HSt w w1 w.heap.size h.prev h.root h.time h.diff h.nonce) := S0.drew.call b1
        go_wp2_with fail
        refine hK.out _ _ ?_ (fun hHeld => ?_)
        · first | (with_reducible exact S3.out.out) | (with_reducible exact S2.out.out) | (with_reducible exact S1.out.out)
        clear hK K
        try simp only [Act.put, List.setIfInBounds_toArray, List.set_cons_zero, List.set_cons_succ]
        refine takeL 2 (v := ?_) rfl (by kernel_rfl) (by kernel_rfl) (by kernel_rfl) (fun _ _ _ h => h) (by kernel_rfl) ?_ (by assumption) ?_
        rotate_left
        · intro w hSw; (try dsimp only at hSw); first | (go_simp; done) | (go_simp; with_reducible rfl)
        try simp only [Act.put, List.setIfInBounds_toArray, List.set_cons_zero, List.set_cons_succ]
        refine takeL 3 (v := ?_) rfl (by kernel_rfl) (by kernel_rfl) (by kernel_rfl) (fun _ _ _ h => h) (by kernel_rfl) ?_ (by assumption) ?_
        rotate_left
        · intro w hSw; (try dsimp only at hSw); first | (go_simp; done) | (go_simp; with_reducible rfl)
        try simp only [Act.put, List.setIfInBounds_toArray, List.set_cons_zero, List.set_cons_succ]
        refine takeL 4 (v := ?_) rfl (by kernel_rfl) (by kernel_rfl) (by kernel_rfl) (fun _ _ _ h => h) (by kernel_rfl) ?_ (by assumption) ?_
        rotate_left
        · intro w hSw; (try dsimp only at hSw); first | (go_simp; done) | (go_simp; with_reducible rfl)
        try simp only [Act.put, List.setIfInBounds_toArray, List.set_cons_zero, List.set_cons_succ]
        refine takeL 5 (v := ?_) rfl (by kernel_rfl) (by kernel_rfl) (by kernel_rfl) (fun _ _ _ h => h) (by kernel_rfl) ?_ (by assumption) ?_
        rotate_left
        · intro w hSw; (try dsimp only at hSw); first | (go_simp; done) | (go_simp; with_reducible rfl)
        try simp only [Act.put, List.setIfInBounds_toArray, List.set_cons_zero, List.set_cons_succ]
        refine takeL 6 (v := ?_) rfl (by kernel_rfl) (by kernel_rfl) (by kernel_rfl) (fun _ _ _ h => h) (by kernel_rfl) ?_ (by assumption) ?_
        rotate_left
        · intro w hSw; (try dsimp only at hSw); first | (go_simp; done) | (go_simp; with_reducible rfl)
        try simp only [Act.put, List.setIfInBounds_toArray, List.set_cons_zero, List.set_cons_succ]
        refine callL 7 rfl (by kernel_rfl) (fun K hK => ?_)
        go_simp
        refine (hdf _ (HA.out.below S1.out.2.1)).mono ?_
        rintro e w2 ⟨rfl, b2⟩
        have S2 : Hid (HSt w w2 w.heap.size h.prev h.root h.time h.diff h.nonce) := S1.out.call b2
        go_wp2_with fail
        refine hK.out _ _ ?_ (fun hHeld => ?_)
        · first | (with_reducible exact S3.out.out) | (with_reducible exact S2.out.out) | (with_reducible exact S1.out.out)
        clear hK K
        try simp only [Act.put, List.setIfInBounds_toArray, List.set_cons_zero, List.set_cons_succ]
        refine takeL 8 (v := ?_) rfl (by kernel_rfl) (by kernel_rfl) (by kernel_rfl) (fun _ _ _ h => h) (by kernel_rfl) ?_ (by assumption) ?_
        rotate_left
        · intro w hSw; (try dsimp only at hSw); first | (go_simp; done) | (go_simp; with_reducible rfl)
        try simp only [Act.put, List.setIfInBounds_toArray, List.set_cons_zero, List.set_cons_succ]
        refine takeL 9 (v := ?_) rfl (by kernel_rfl) (by kernel_rfl) (by kernel_rfl) (fun _ _ _ h => h) (by kernel_rfl) ?_ (by assumption) ?_
        rotate_left
        · intro w hSw; (try dsimp only at hSw); first | (go_simp; done) | (go_simp; with_reducible rfl)
        try simp only [Act.put, List.setIfInBounds_toArray, List.set_cons_zero, List.set_cons_succ]
        refine takeL 10 (v := ?_) rfl (by kernel_rfl) (by kernel_rfl) (by kernel_rfl) (fun _ _ _ h => h) (by kernel_rfl) ?_ (by assumption) ?_
        rotate_left
        · intro w hSw; (try dsimp only at hSw); first | (go_simp; done) | (go_simp; with_reducible rfl)
        try simp only [Act.put, List.setIfInBounds_toArray, List.set_cons_zero, List.set_cons_succ]
        refine takeL 11 (v := ?_) rfl (by kernel_rfl) (by kernel_rfl) (by kernel_rfl) (fun _ _ _ h => h) (by kernel_rfl) ?_ (by assumption) ?_
        rotate_left
        · intro w hSw; (try dsimp only at hSw); first | (go_simp; done) | (go_simp; with_reducible rfl)
        try simp only [Act.put, List.setIfInBounds_toArray, List.set_cons_zero, List.set_cons_succ]
        refine callL 12 rfl (by kernel_rfl) (fun K hK => ?_)
        go_simp
        refine (hmt _).mono ?_
        rintro e w3 ⟨rfl, b3⟩
        have S3 : Hid (HSt w w3 w.heap.size h.prev h.root h.time h.diff h.nonce) := S2.out.call b3
        go_wp2_with fail
        refine hK.out _ _ ?_ (fun hHeld => ?_)
        · first | (with_reducible exact S3.out.out) | (with_reducible exact S2.out.out) | (with_reducible exact S1.out.out)
        clear hK K
        try simp only [Act.put, List.setIfInBounds_toArray, List.set_cons_zero, List.set_cons_succ]
        refine takeL 13 (v := ?_) rfl (by kernel_rfl) (by kernel_rfl) (by kernel_rfl) (fun _ _ _ h => h) (by kernel_rfl) ?_ (by assumption) ?_
        rotate_left
        · intro w hSw; (try dsimp only at hSw); first | (go_simp; done) | (go_simp; with_reducible rfl)
        try simp only [Act.put, List.setIfInBounds_toArray, List.set_cons_zero, List.set_cons_succ]
        refine takeL 14 (v := ?_) rfl (by kernel_rfl) (by kernel_rfl) (by kernel_rfl) (fun _ _ _ h => h) (by kernel_rfl) ?_ (by assumption) ?_
        rotate_left
        · intro w hSw; (try dsimp only at hSw); first | (go_simp; done) | (go_simp; with_reducible rfl)
        try simp only [Act.put, List.setIfInBounds_toArray, List.set_cons_zero, List.set_cons_succ]
        refine wpAnyH_done (by kernel_rfl) ?_ _
        refine NoPanic.normal ?_
        go_wp2_with fail
        go_ret
        exact ⟨by rw [HV.out]; rfl, S3.out.2.1⟩
      | true =>
        have HV : Hid (fitsB l h = (decide (h.prev = prevV l) && laterB l h.time)) := fits_rest hok hme hdi
        have hn := hA.len
        have hm := hA.max
        rw [hok] at hck
        rw [hme] at hmt
        rw [← hdi] at hdf
        by_cases h0 : n = 0
        · have HV2 : Hid (fitsB l h = decide (h.prev = zeros16)) := by
            show _ = _
            have hlt : laterB l h.time = true := decide_eq_true (Or.inl (by omega))
            rw [HV.out, prevV, if_pos (by omega), hlt, Bool.and_true]
          unfold headVal at hmt ⊢
          subst h0
          clear hA hp hr hok hme hdi HV hn
          go_enter Tryz.func66, Tryz.ntmps66
          go_wp2_with fail
          refine wp_region_noPanic ?_
          refine wp_region_held_drew (S := fun w' => w'.cell? ⟨w.heap.size, 0, none⟩ = some (.string h.prev) ∧ w'.cell? ⟨w.heap.size, 1, none⟩ = some (.string h.root) ∧ w'.cell? ⟨w.heap.size, 2, none⟩ = some (.int .i64 h.time) ∧ w'.cell? ⟨w.heap.size, 3, none⟩ = some (.int .i64 h.diff) ∧ w'.cell? ⟨w.heap.size, 4, none⟩ = some (.int .i64 h.nonce)) (by kernel_rfl) (S0.drew.out) (fun hHeld => ?_)
          refine takeL 0 (v := ?_) rfl (by kernel_rfl) (by kernel_rfl) (by kernel_rfl) (fun _ _ _ h => h) (by kernel_rfl) ?_ (by assumption) ?_
          rotate_left
          · intro w hSw; (try dsimp only at hSw); first | (go_simp; done) | (go_simp; with_reducible rfl)
          try simp only [Act.put, List.setIfInBounds_toArray, List.set_cons_zero, List.set_cons_succ]
          refine callL 1 rfl (by kernel_rfl) (fun K hK => ?_)
          go_simp
          refine (hck _).mono ?_
          rintro e w1 ⟨rfl, b1⟩
          have S1 : Hid (HSt w w1 w.heap.size h.prev h.root h.time h.diff h.nonce) := S0.drew.call b1
          go_wp2_with fail
          refine hK.out _ _ ?_ (fun hHeld => ?_)
          · first | (with_reducible exact S3.out.out) | (with_reducible exact S2.out.out) | (with_reducible exact S1.out.out)
          clear hK K
          try simp only [Act.put, List.setIfInBounds_toArray, List.set_cons_zero, List.set_cons_succ]
          refine takeL 2 (v := ?_) rfl (by kernel_rfl) (by kernel_rfl) (by kernel_rfl) (fun _ _ _ h => h) (by kernel_rfl) ?_ (by assumption) ?_
          rotate_left
          · intro w hSw; (try dsimp only at hSw); first | (go_simp; done) | (go_simp; with_reducible rfl)
          try simp only [Act.put, List.setIfInBounds_toArray, List.set_cons_zero, List.set_cons_succ]
          refine takeL 3 (v := ?_) rfl (by kernel_rfl) (by kernel_rfl) (by kernel_rfl) (fun _ _ _ h => h) (by kernel_rfl) ?_ (by assumption) ?_
          rotate_left
          · intro w hSw; (try dsimp only at hSw); first | (go_simp; done) | (go_simp; with_reducible rfl)
          try simp only [Act.put, List.setIfInBounds_toArray, List.set_cons_zero, List.set_cons_succ]
          refine takeL 4 (v := ?_) rfl (by kernel_rfl) (by kernel_rfl) (by kernel_rfl) (fun _ _ _ h => h) (by kernel_rfl) ?_ (by assumption) ?_
          rotate_left
          · intro w hSw; (try dsimp only at hSw); first | (go_simp; done) | (go_simp; with_reducible rfl)
          try simp only [Act.put, List.setIfInBounds_toArray, List.set_cons_zero, List.set_cons_succ]
          refine takeL 5 (v := ?_) rfl (by kernel_rfl) (by kernel_rfl) (by kernel_rfl) (fun _ _ _ h => h) (by kernel_rfl) ?_ (by assumption) ?_
          rotate_left
          · intro w hSw; (try dsimp only at hSw); first | (go_simp; done) | (go_simp; with_reducible rfl)
          try simp only [Act.put, List.setIfInBounds_toArray, List.set_cons_zero, List.set_cons_succ]
          refine takeL 6 (v := ?_) rfl (by kernel_rfl) (by kernel_rfl) (by kernel_rfl) (fun _ _ _ h => h) (by kernel_rfl) ?_ (by assumption) ?_
          rotate_left
          · intro w hSw; (try dsimp only at hSw); first | (go_simp; done) | (go_simp; with_reducible rfl)
          try simp only [Act.put, List.setIfInBounds_toArray, List.set_cons_zero, List.set_cons_succ]
          refine callL 7 rfl (by kernel_rfl) (fun K hK => ?_)
          go_simp
          refine (hdf _ (HA.out.below S1.out.2.1)).mono ?_
          rintro e w2 ⟨rfl, b2⟩
          have S2 : Hid (HSt w w2 w.heap.size h.prev h.root h.time h.diff h.nonce) := S1.out.call b2
          go_wp2_with fail
          refine hK.out _ _ ?_ (fun hHeld => ?_)
          · first | (with_reducible exact S3.out.out) | (with_reducible exact S2.out.out) | (with_reducible exact S1.out.out)
          clear hK K
          try simp only [Act.put, List.setIfInBounds_toArray, List.set_cons_zero, List.set_cons_succ]
          refine takeL 8 (v := ?_) rfl (by kernel_rfl) (by kernel_rfl) (by kernel_rfl) (fun _ _ _ h => h) (by kernel_rfl) ?_ (by assumption) ?_
          rotate_left
          · intro w hSw; (try dsimp only at hSw); first | (go_simp; done) | (go_simp; with_reducible rfl)
          try simp only [Act.put, List.setIfInBounds_toArray, List.set_cons_zero, List.set_cons_succ]
          refine takeL 9 (v := ?_) rfl (by kernel_rfl) (by kernel_rfl) (by kernel_rfl) (fun _ _ _ h => h) (by kernel_rfl) ?_ (by assumption) ?_
          rotate_left
          · intro w hSw; (try dsimp only at hSw); first | (go_simp; done) | (go_simp; with_reducible rfl)
          try simp only [Act.put, List.setIfInBounds_toArray, List.set_cons_zero, List.set_cons_succ]
          refine takeL 10 (v := ?_) rfl (by kernel_rfl) (by kernel_rfl) (by kernel_rfl) (fun _ _ _ h => h) (by kernel_rfl) ?_ (by assumption) ?_
          rotate_left
          · intro w hSw; (try dsimp only at hSw); first | (go_simp; done) | (go_simp; with_reducible rfl)
          try simp only [Act.put, List.setIfInBounds_toArray, List.set_cons_zero, List.set_cons_succ]
          refine takeL 11 (v := ?_) rfl (by kernel_rfl) (by kernel_rfl) (by kernel_rfl) (fun _ _ _ h => h) (by kernel_rfl) ?_ (by assumption) ?_
          rotate_left
          · intro w hSw; (try dsimp only at hSw); first | (go_simp; done) | (go_simp; with_reducible rfl)
          try simp only [Act.put, List.setIfInBounds_toArray, List.set_cons_zero, List.set_cons_succ]
          refine callL 12 rfl (by kernel_rfl) (fun K hK => ?_)
          go_simp
          refine (hmt _).mono ?_
          rintro e w3 ⟨rfl, b3⟩
          have S3 : Hid (HSt w w3 w.heap.size h.prev h.root h.time h.diff h.nonce) := S2.out.call b3
          go_wp2_with fail
          refine hK.out _ _ ?_ (fun hHeld => ?_)
          · first | (with_reducible exact S3.out.out) | (with_reducible exact S2.out.out) | (with_reducible exact S1.out.out)
          clear hK K
          try simp only [Act.put, List.setIfInBounds_toArray, List.set_cons_zero, List.set_cons_succ]
          refine takeL 13 (v := ?_) rfl (by kernel_rfl) (by kernel_rfl) (by kernel_rfl) (fun _ _ _ h => h) (by kernel_rfl) ?_ (by assumption) ?_
          rotate_left
          · intro w hSw; (try dsimp only at hSw); first | (go_simp; done) | (go_simp; with_reducible rfl)
          try simp only [Act.put, List.setIfInBounds_toArray, List.set_cons_zero, List.set_cons_succ]
          refine takeL 14 (v := ?_) rfl (by kernel_rfl) (by kernel_rfl) (by kernel_rfl) (fun _ _ _ h => h) (by kernel_rfl) ?_ (by assumption) ?_
          rotate_left
          · intro w hSw; (try dsimp only at hSw); first | (go_simp; done) | (go_simp; with_reducible rfl)
          try simp only [Act.put, List.setIfInBounds_toArray, List.set_cons_zero, List.set_cons_succ]
          refine wpAnyH_done (by kernel_rfl) ?_ _
          refine NoPanic.normal ?_
          go_wp2_with fail
          go_region_held3 (fun w' => w'.cell? ⟨w.heap.size, 0, none⟩ = some (.string h.prev) ∧ w'.cell? ⟨w.heap.size, 1, none⟩ = some (.string h.root) ∧ w'.cell? ⟨w.heap.size, 2, none⟩ = some (.int .i64 h.time) ∧ w'.cell? ⟨w.heap.size, 3, none⟩ = some (.int .i64 h.diff) ∧ w'.cell? ⟨w.heap.size, 4, none⟩ = some (.int .i64 h.nonce))
            (first | (with_reducible first | exact S3.out.out | exact S3.out.drew.out) | go_keep)
            (first | (go_at_call 92; refine (specL4Zero _).mono ?_; rintro e w4 ⟨rfl, rfl⟩))
          go_wp2_with fail
          go_ret
          refine ⟨?_, S3.out.drew.2.1⟩
          rw [HV2.out, ← sameS]
          rfl
        obtain ⟨j, hj⟩ : ∃ j, n = j + 1 := ⟨n - 1, by omega⟩
        have hjl : j < l.length := by omega
        have c0 := AtHead.c0 hA.at_ j hjl
        have c1 := AtHead.c1 hA.at_ j hjl
        have c2 := AtHead.c2 hA.at_ j hjl
        have c3 := AtHead.c3 hA.at_ j hjl
        have c4 := AtHead.c4 hA.at_ j hjl
        have HL : lastH l = l.getD j default := by rw [lastH, ← hn, hj, Nat.add_sub_cancel]
        have hgl := hA.at_.1
        have hw1 : IntKind.i64.wrap ((n : Int) - 1) = (j : Int) := by rw [IntKind.wrap_i64]; omega
        have lj : (j : Int) < (n : Int) := by omega
        have lj0 : (0 : Int) ≤ (j : Int) := by omega
        have hn0 : ¬ (n : Int) = 0 := by omega
        have hls := specL3Sum (l.getD j default)
        have hls2 := fun w' => hls w' (hA.ok j hjl)
        clear hls
        have HPV : Hid (prevV l = sumH (l.getD j default)) := by show _ = _; rw [prevV, if_neg (by omega), HL]
        have HLV : Hid (laterB l h.time = decide ((l.getD j default).time < h.time)) := by
          show _ = _
          rw [laterB, HL]
          refine decide_eq_decide.2 ⟨?_, Or.inr⟩
          rintro (h1 | h1)
          · omega
          · exact h1
        have hst : (⟨(sumB (headX (l.getD j default))).toArray⟩ : ByteArray) = sumH (l.getD j default) := rfl
        rw [hst] at hls2
        clear hst
        generalize prevV l = PV at HPV HV
        generalize laterB l h.time = LV at HLV HV
        generalize sumH (l.getD j default) = sb at hls2 HPV
        generalize l.getD j default = p at c0 c1 c2 c3 c4 hls2 HLV
        unfold headVal at hmt hls2 ⊢
        have HLC : Hid (∀ w', Below w.heap.size w w' → w'.cell? ⟨g, j * 5, none⟩ = some (.string p.prev) ∧ w'.cell? ⟨g, j * 5 + 1, none⟩ = some (.string p.root) ∧ w'.cell? ⟨g, j * 5 + 2, none⟩ = some (.int .i64 p.time) ∧ w'.cell? ⟨g, j * 5 + 3, none⟩ = some (.int .i64 p.diff) ∧ w'.cell? ⟨g, j * 5 + 4, none⟩ = some (.int .i64 p.nonce)) := fun w' hb => ⟨(hb.cell (p := ⟨g, j * 5, none⟩) hgl).trans c0, (hb.cell (p := ⟨g, j * 5 + 1, none⟩) hgl).trans c1, (hb.cell (p := ⟨g, j * 5 + 2, none⟩) hgl).trans c2, (hb.cell (p := ⟨g, j * 5 + 3, none⟩) hgl).trans c3, (hb.cell (p := ⟨g, j * 5 + 4, none⟩) hgl).trans c4⟩
        clear hA hp hr hok hme hdi hn hj hjl h0 hm HL c0 c1 c2 c3 c4
        by_cases hpv : h.prev = sb
        · have heq : (h.prev.toList == sb.toList) = true := by rw [sameS, decide_eq_true hpv]
          have HV2 : Hid (fitsB l h = decide (p.time < h.time)) := by show _ = _; rw [HV.out, HLV.out, HPV.out, decide_eq_true hpv, Bool.true_and]
          clear HV HLV HPV hpv
          go_enter Tryz.func66, Tryz.ntmps66
          go_wp2_with fail
          refine wp_region_noPanic ?_
          refine wp_region_held_drew (S := fun w' => w'.cell? ⟨w.heap.size, 0, none⟩ = some (.string h.prev) ∧ w'.cell? ⟨w.heap.size, 1, none⟩ = some (.string h.root) ∧ w'.cell? ⟨w.heap.size, 2, none⟩ = some (.int .i64 h.time) ∧ w'.cell? ⟨w.heap.size, 3, none⟩ = some (.int .i64 h.diff) ∧ w'.cell? ⟨w.heap.size, 4, none⟩ = some (.int .i64 h.nonce)) (by kernel_rfl) (S0.drew.out) (fun hHeld => ?_)
          refine takeL 0 (v := ?_) rfl (by kernel_rfl) (by kernel_rfl) (by kernel_rfl) (fun _ _ _ h => h) (by kernel_rfl) ?_ (by assumption) ?_
          rotate_left
          · intro w hSw; (try dsimp only at hSw); first | (go_simp; done) | (go_simp; with_reducible rfl)
          try simp only [Act.put, List.setIfInBounds_toArray, List.set_cons_zero, List.set_cons_succ]
          refine callL 1 rfl (by kernel_rfl) (fun K hK => ?_)
          go_simp
          refine (hck _).mono ?_
          rintro e w1 ⟨rfl, b1⟩
          have S1 : Hid (HSt w w1 w.heap.size h.prev h.root h.time h.diff h.nonce) := S0.drew.call b1
          go_wp2_with fail
          refine hK.out _ _ ?_ (fun hHeld => ?_)
          · first | (with_reducible exact S3.out.out) | (with_reducible exact S2.out.out) | (with_reducible exact S1.out.out)
          clear hK K
          try simp only [Act.put, List.setIfInBounds_toArray, List.set_cons_zero, List.set_cons_succ]
          refine takeL 2 (v := ?_) rfl (by kernel_rfl) (by kernel_rfl) (by kernel_rfl) (fun _ _ _ h => h) (by kernel_rfl) ?_ (by assumption) ?_
          rotate_left
          · intro w hSw; (try dsimp only at hSw); first | (go_simp; done) | (go_simp; with_reducible rfl)
          try simp only [Act.put, List.setIfInBounds_toArray, List.set_cons_zero, List.set_cons_succ]
          refine takeL 3 (v := ?_) rfl (by kernel_rfl) (by kernel_rfl) (by kernel_rfl) (fun _ _ _ h => h) (by kernel_rfl) ?_ (by assumption) ?_
          rotate_left
          · intro w hSw; (try dsimp only at hSw); first | (go_simp; done) | (go_simp; with_reducible rfl)
          try simp only [Act.put, List.setIfInBounds_toArray, List.set_cons_zero, List.set_cons_succ]
          refine takeL 4 (v := ?_) rfl (by kernel_rfl) (by kernel_rfl) (by kernel_rfl) (fun _ _ _ h => h) (by kernel_rfl) ?_ (by assumption) ?_
          rotate_left
          · intro w hSw; (try dsimp only at hSw); first | (go_simp; done) | (go_simp; with_reducible rfl)
          try simp only [Act.put, List.setIfInBounds_toArray, List.set_cons_zero, List.set_cons_succ]
          refine takeL 5 (v := ?_) rfl (by kernel_rfl) (by kernel_rfl) (by kernel_rfl) (fun _ _ _ h => h) (by kernel_rfl) ?_ (by assumption) ?_
          rotate_left
          · intro w hSw; (try dsimp only at hSw); first | (go_simp; done) | (go_simp; with_reducible rfl)
          try simp only [Act.put, List.setIfInBounds_toArray, List.set_cons_zero, List.set_cons_succ]
          refine takeL 6 (v := ?_) rfl (by kernel_rfl) (by kernel_rfl) (by kernel_rfl) (fun _ _ _ h => h) (by kernel_rfl) ?_ (by assumption) ?_
          rotate_left
          · intro w hSw; (try dsimp only at hSw); first | (go_simp; done) | (go_simp; with_reducible rfl)
          try simp only [Act.put, List.setIfInBounds_toArray, List.set_cons_zero, List.set_cons_succ]
          refine callL 7 rfl (by kernel_rfl) (fun K hK => ?_)
          go_simp
          refine (hdf _ (HA.out.below S1.out.2.1)).mono ?_
          rintro e w2 ⟨rfl, b2⟩
          have S2 : Hid (HSt w w2 w.heap.size h.prev h.root h.time h.diff h.nonce) := S1.out.call b2
          go_wp2_with fail
          refine hK.out _ _ ?_ (fun hHeld => ?_)
          · first | (with_reducible exact S3.out.out) | (with_reducible exact S2.out.out) | (with_reducible exact S1.out.out)
          clear hK K
          try simp only [Act.put, List.setIfInBounds_toArray, List.set_cons_zero, List.set_cons_succ]
          refine takeL 8 (v := ?_) rfl (by kernel_rfl) (by kernel_rfl) (by kernel_rfl) (fun _ _ _ h => h) (by kernel_rfl) ?_ (by assumption) ?_
          rotate_left
          · intro w hSw; (try dsimp only at hSw); first | (go_simp; done) | (go_simp; with_reducible rfl)
          try simp only [Act.put, List.setIfInBounds_toArray, List.set_cons_zero, List.set_cons_succ]
          refine takeL 9 (v := ?_) rfl (by kernel_rfl) (by kernel_rfl) (by kernel_rfl) (fun _ _ _ h => h) (by kernel_rfl) ?_ (by assumption) ?_
          rotate_left
          · intro w hSw; (try dsimp only at hSw); first | (go_simp; done) | (go_simp; with_reducible rfl)
          try simp only [Act.put, List.setIfInBounds_toArray, List.set_cons_zero, List.set_cons_succ]
          refine takeL 10 (v := ?_) rfl (by kernel_rfl) (by kernel_rfl) (by kernel_rfl) (fun _ _ _ h => h) (by kernel_rfl) ?_ (by assumption) ?_
          rotate_left
          · intro w hSw; (try dsimp only at hSw); first | (go_simp; done) | (go_simp; with_reducible rfl)
          try simp only [Act.put, List.setIfInBounds_toArray, List.set_cons_zero, List.set_cons_succ]
          refine takeL 11 (v := ?_) rfl (by kernel_rfl) (by kernel_rfl) (by kernel_rfl) (fun _ _ _ h => h) (by kernel_rfl) ?_ (by assumption) ?_
          rotate_left
          · intro w hSw; (try dsimp only at hSw); first | (go_simp; done) | (go_simp; with_reducible rfl)
          try simp only [Act.put, List.setIfInBounds_toArray, List.set_cons_zero, List.set_cons_succ]
          refine callL 12 rfl (by kernel_rfl) (fun K hK => ?_)
          go_simp
          refine (hmt _).mono ?_
          rintro e w3 ⟨rfl, b3⟩
          have S3 : Hid (HSt w w3 w.heap.size h.prev h.root h.time h.diff h.nonce) := S2.out.call b3
          go_wp2_with fail
          refine hK.out _ _ ?_ (fun hHeld => ?_)
          · first | (with_reducible exact S3.out.out) | (with_reducible exact S2.out.out) | (with_reducible exact S1.out.out)
          clear hK K
          try simp only [Act.put, List.setIfInBounds_toArray, List.set_cons_zero, List.set_cons_succ]
          refine takeL 13 (v := ?_) rfl (by kernel_rfl) (by kernel_rfl) (by kernel_rfl) (fun _ _ _ h => h) (by kernel_rfl) ?_ (by assumption) ?_
          rotate_left
          · intro w hSw; (try dsimp only at hSw); first | (go_simp; done) | (go_simp; with_reducible rfl)
          try simp only [Act.put, List.setIfInBounds_toArray, List.set_cons_zero, List.set_cons_succ]
          refine takeL 14 (v := ?_) rfl (by kernel_rfl) (by kernel_rfl) (by kernel_rfl) (fun _ _ _ h => h) (by kernel_rfl) ?_ (by assumption) ?_
          rotate_left
          · intro w hSw; (try dsimp only at hSw); first | (go_simp; done) | (go_simp; with_reducible rfl)
          try simp only [Act.put, List.setIfInBounds_toArray, List.set_cons_zero, List.set_cons_succ]
          refine wpAnyH_done (by kernel_rfl) ?_ _
          refine NoPanic.normal ?_
          go_wp2_with fail
          refine wp_region_noPanic ?_
          refine wp_region_held_drew (S := fun w' => (w'.cell? ⟨w.heap.size, 0, none⟩ = some (.string h.prev) ∧ w'.cell? ⟨w.heap.size, 1, none⟩ = some (.string h.root) ∧ w'.cell? ⟨w.heap.size, 2, none⟩ = some (.int .i64 h.time) ∧ w'.cell? ⟨w.heap.size, 3, none⟩ = some (.int .i64 h.diff) ∧ w'.cell? ⟨w.heap.size, 4, none⟩ = some (.int .i64 h.nonce)) ∧ w'.cell? ⟨g, j * 5, none⟩ = some (.string p.prev) ∧ w'.cell? ⟨g, j * 5 + 1, none⟩ = some (.string p.root) ∧ w'.cell? ⟨g, j * 5 + 2, none⟩ = some (.int .i64 p.time) ∧ w'.cell? ⟨g, j * 5 + 3, none⟩ = some (.int .i64 p.diff) ∧ w'.cell? ⟨g, j * 5 + 4, none⟩ = some (.int .i64 p.nonce)) (by kernel_rfl) (⟨S3.out.drew.out, HLC.out _ S3.out.drew.2.1⟩) (fun hHeld => ?_)
          refine takeL 0 (v := ?_) rfl (by kernel_rfl) (by kernel_rfl) (by kernel_rfl) (fun _ _ _ h => h) (by kernel_rfl) ?_ (by assumption) ?_
          rotate_left
          · intro w hSw; (try dsimp only at hSw); first | (go_simp; done) | (go_simp; with_reducible rfl)
          try simp only [Act.put, List.setIfInBounds_toArray, List.set_cons_zero, List.set_cons_succ]
          refine takeL 1 (v := ?_) rfl (by kernel_rfl) (by kernel_rfl) (by kernel_rfl) (fun _ _ _ h => h) (by kernel_rfl) ?_ (by assumption) ?_
          rotate_left
          · intro w hSw; (try dsimp only at hSw); first | (go_simp; done) | (go_simp; with_reducible rfl)
          try simp only [Act.put, List.setIfInBounds_toArray, List.set_cons_zero, List.set_cons_succ]
          refine takeL 2 (v := ?_) rfl (by kernel_rfl) (by kernel_rfl) (by kernel_rfl) (fun _ _ _ h => h) (by kernel_rfl) ?_ (by assumption) ?_
          rotate_left
          · intro w hSw; (try dsimp only at hSw); first | (go_simp; done) | (go_simp; with_reducible rfl)
          try simp only [Act.put, List.setIfInBounds_toArray, List.set_cons_zero, List.set_cons_succ]
          refine takeL 3 (v := ?_) rfl (by kernel_rfl) (by kernel_rfl) (by kernel_rfl) (fun _ _ _ h => h) (by kernel_rfl) ?_ (by assumption) ?_
          rotate_left
          · intro w hSw; (try dsimp only at hSw); first | (go_simp; done) | (go_simp; with_reducible rfl)
          try simp only [Act.put, List.setIfInBounds_toArray, List.set_cons_zero, List.set_cons_succ]
          refine takeL 4 (v := ?_) rfl (by kernel_rfl) (by kernel_rfl) (by kernel_rfl) (fun _ _ _ h => h) (by kernel_rfl) ?_ (by assumption) ?_
          rotate_left
          · intro w hSw; (try dsimp only at hSw); first | (go_simp; done) | (go_simp; with_reducible rfl)
          try simp only [Act.put, List.setIfInBounds_toArray, List.set_cons_zero, List.set_cons_succ]
          refine takeL 5 (v := ?_) rfl (by kernel_rfl) (by kernel_rfl) (by kernel_rfl) (fun _ _ _ h => h) (by kernel_rfl) ?_ (by assumption) ?_
          rotate_left
          · intro w hSw; (try dsimp only at hSw); first | (go_simp; done) | (go_simp; with_reducible rfl)
          try simp only [Act.put, List.setIfInBounds_toArray, List.set_cons_zero, List.set_cons_succ]
          refine takeL 6 (v := ?_) rfl (by kernel_rfl) (by kernel_rfl) (by kernel_rfl) (fun _ _ _ h => h) (by kernel_rfl) ?_ (by assumption) ?_
          rotate_left
          · intro w hSw; (try dsimp only at hSw); first | (go_simp; done) | (go_simp; with_reducible rfl)
          try simp only [Act.put, List.setIfInBounds_toArray, List.set_cons_zero, List.set_cons_succ]
          refine callL 7 rfl (by kernel_rfl) (fun K hK => ?_)
          go_simp
          refine (hls2 _).mono ?_
          rintro e w4 ⟨rfl, b4⟩
          have S4 : Hid (HSt w w4 w.heap.size h.prev h.root h.time h.diff h.nonce) := S3.out.drew.call b4
          go_wp2_with fail
          refine hK.out _ _ ?_ (fun hHeld => ?_)
          · exact ⟨S4.out.out, HLC.out _ S4.out.2.1⟩
          clear hK K
          try simp only [Act.put, List.setIfInBounds_toArray, List.set_cons_zero, List.set_cons_succ]
          refine takeL 8 (v := ?_) rfl (by kernel_rfl) (by kernel_rfl) (by kernel_rfl) (fun _ _ _ h => h) (by kernel_rfl) ?_ (by assumption) ?_
          rotate_left
          · intro w hSw; (try dsimp only at hSw); first | (go_simp; done) | (go_simp; with_reducible rfl)
          try simp only [Act.put, List.setIfInBounds_toArray, List.set_cons_zero, List.set_cons_succ]
          refine takeL 9 (v := ?_) rfl (by kernel_rfl) (by kernel_rfl) (by kernel_rfl) (fun _ _ _ h => h) (by kernel_rfl) ?_ (by assumption) ?_
          rotate_left
          · intro w hSw; (try dsimp only at hSw); first | (go_simp; done) | (go_simp; with_reducible rfl)
          try simp only [Act.put, List.setIfInBounds_toArray, List.set_cons_zero, List.set_cons_succ]
          refine takeL 10 (v := ?_) rfl (by kernel_rfl) (by kernel_rfl) (by kernel_rfl) (fun _ _ _ h => h) (by kernel_rfl) ?_ (by assumption) ?_
          rotate_left
          · intro w hSw; (try dsimp only at hSw); first | (go_simp; done) | (go_simp; with_reducible rfl)
          try simp only [Act.put, List.setIfInBounds_toArray, List.set_cons_zero, List.set_cons_succ]
          refine takeL 11 (v := ?_) rfl (by kernel_rfl) (by kernel_rfl) (by kernel_rfl) (fun _ _ _ h => h) (by kernel_rfl) ?_ (by assumption) ?_
          rotate_left
          · intro w hSw; (try dsimp only at hSw); first | (go_simp; done) | (go_simp; with_reducible rfl)
          try simp only [Act.put, List.setIfInBounds_toArray, List.set_cons_zero, List.set_cons_succ]
          refine takeL 12 (v := ?_) rfl (by kernel_rfl) (by kernel_rfl) (by kernel_rfl) (fun _ _ _ h => h) (by kernel_rfl) ?_ (by assumption) ?_
          rotate_left
          · intro w hSw; (try dsimp only at hSw); first | (go_simp; done) | (go_simp; with_reducible rfl)
          try simp only [Act.put, List.setIfInBounds_toArray, List.set_cons_zero, List.set_cons_succ]
          refine takeL 13 (v := ?_) rfl (by kernel_rfl) (by kernel_rfl) (by kernel_rfl) (fun _ _ _ h => h) (by kernel_rfl) ?_ (by assumption) ?_
          rotate_left
          · intro w hSw; (try dsimp only at hSw); first | (go_simp; done) | (go_simp; with_reducible rfl)
          try simp only [Act.put, List.setIfInBounds_toArray, List.set_cons_zero, List.set_cons_succ]
          refine takeL 14 (v := ?_) rfl (by kernel_rfl) (by kernel_rfl) (by kernel_rfl) (fun _ _ _ h => h) (by kernel_rfl) ?_ (by assumption) ?_
          rotate_left
          · intro w hSw; (try dsimp only at hSw); first | (go_simp; done) | (go_simp; with_reducible rfl)
          try simp only [Act.put, List.setIfInBounds_toArray, List.set_cons_zero, List.set_cons_succ]
          refine takeL 15 (v := ?_) rfl (by kernel_rfl) (by kernel_rfl) (by kernel_rfl) (fun _ _ _ h => h) (by kernel_rfl) ?_ (by assumption) ?_
          rotate_left
          · intro w hSw; (try dsimp only at hSw); first | (go_simp; done) | (go_simp; with_reducible rfl)
          try simp only [Act.put, List.setIfInBounds_toArray, List.set_cons_zero, List.set_cons_succ]
          refine takeL 16 (v := ?_) rfl (by kernel_rfl) (by kernel_rfl) (by kernel_rfl) (fun _ _ _ h => h) (by kernel_rfl) ?_ (by assumption) ?_
          rotate_left
          · intro w hSw; (try dsimp only at hSw); first | (go_simp; done) | (go_simp; with_reducible rfl)
          try simp only [Act.put, List.setIfInBounds_toArray, List.set_cons_zero, List.set_cons_succ]
          refine takeL 17 (v := ?_) rfl (by kernel_rfl) (by kernel_rfl) (by kernel_rfl) (fun _ _ _ h => h) (by kernel_rfl) ?_ (by assumption) ?_
          rotate_left
          · intro w hSw; (try dsimp only at hSw); first | (go_simp; done) | (go_simp; with_reducible rfl)
          try simp only [Act.put, List.setIfInBounds_toArray, List.set_cons_zero, List.set_cons_succ]
          refine takeL 18 (v := ?_) rfl (by kernel_rfl) (by kernel_rfl) (by kernel_rfl) (fun _ _ _ h => h) (by kernel_rfl) ?_ (by assumption) ?_
          rotate_left
          · intro w hSw; (try dsimp only at hSw); first | (go_simp; done) | (go_simp; with_reducible rfl)
          try simp only [Act.put, List.setIfInBounds_toArray, List.set_cons_zero, List.set_cons_succ]
          refine takeL 19 (v := ?_) rfl (by kernel_rfl) (by kernel_rfl) (by kernel_rfl) (fun _ _ _ h => h) (by kernel_rfl) ?_ (by assumption) ?_
          rotate_left
          · intro w hSw; (try dsimp only at hSw); first | (go_simp; done) | (go_simp; with_reducible rfl)
          try simp only [Act.put, List.setIfInBounds_toArray, List.set_cons_zero, List.set_cons_succ]
          refine takeL 20 (v := ?_) rfl (by kernel_rfl) (by kernel_rfl) (by kernel_rfl) (fun _ _ _ h => h) (by kernel_rfl) ?_ (by assumption) ?_
          rotate_left
          · intro w hSw; (try dsimp only at hSw); first | (go_simp; done) | (go_simp; with_reducible rfl)
          try simp only [Act.put, List.setIfInBounds_toArray, List.set_cons_zero, List.set_cons_succ]
          refine wpAnyH_done (by kernel_rfl) ?_ _
          refine NoPanic.normal ?_
          go_wp2_with fail
          go_ret
          exact ⟨by rw [HV2.out]; rfl, S4.out.2.1⟩
        · have heq : (h.prev.toList == sb.toList) = false := by rw [sameS, decide_eq_false hpv]
          have HV2 : Hid (fitsB l h = false) := by show _ = _; rw [HV.out, HPV.out, decide_eq_false hpv, Bool.false_and]
          clear HV HLV HPV hpv
          go_enter Tryz.func66, Tryz.ntmps66
          go_wp2_with fail
          refine wp_region_noPanic ?_
          refine wp_region_held_drew (S := fun w' => w'.cell? ⟨w.heap.size, 0, none⟩ = some (.string h.prev) ∧ w'.cell? ⟨w.heap.size, 1, none⟩ = some (.string h.root) ∧ w'.cell? ⟨w.heap.size, 2, none⟩ = some (.int .i64 h.time) ∧ w'.cell? ⟨w.heap.size, 3, none⟩ = some (.int .i64 h.diff) ∧ w'.cell? ⟨w.heap.size, 4, none⟩ = some (.int .i64 h.nonce)) (by kernel_rfl) (S0.drew.out) (fun hHeld => ?_)
          refine takeL 0 (v := ?_) rfl (by kernel_rfl) (by kernel_rfl) (by kernel_rfl) (fun _ _ _ h => h) (by kernel_rfl) ?_ (by assumption) ?_
          rotate_left
          · intro w hSw; (try dsimp only at hSw); first | (go_simp; done) | (go_simp; with_reducible rfl)
          try simp only [Act.put, List.setIfInBounds_toArray, List.set_cons_zero, List.set_cons_succ]
          refine callL 1 rfl (by kernel_rfl) (fun K hK => ?_)
          go_simp
          refine (hck _).mono ?_
          rintro e w1 ⟨rfl, b1⟩
          have S1 : Hid (HSt w w1 w.heap.size h.prev h.root h.time h.diff h.nonce) := S0.drew.call b1
          go_wp2_with fail
          refine hK.out _ _ ?_ (fun hHeld => ?_)
          · first | (with_reducible exact S3.out.out) | (with_reducible exact S2.out.out) | (with_reducible exact S1.out.out)
          clear hK K
          try simp only [Act.put, List.setIfInBounds_toArray, List.set_cons_zero, List.set_cons_succ]
          refine takeL 2 (v := ?_) rfl (by kernel_rfl) (by kernel_rfl) (by kernel_rfl) (fun _ _ _ h => h) (by kernel_rfl) ?_ (by assumption) ?_
          rotate_left
          · intro w hSw; (try dsimp only at hSw); first | (go_simp; done) | (go_simp; with_reducible rfl)
          try simp only [Act.put, List.setIfInBounds_toArray, List.set_cons_zero, List.set_cons_succ]
          refine takeL 3 (v := ?_) rfl (by kernel_rfl) (by kernel_rfl) (by kernel_rfl) (fun _ _ _ h => h) (by kernel_rfl) ?_ (by assumption) ?_
          rotate_left
          · intro w hSw; (try dsimp only at hSw); first | (go_simp; done) | (go_simp; with_reducible rfl)
          try simp only [Act.put, List.setIfInBounds_toArray, List.set_cons_zero, List.set_cons_succ]
          refine takeL 4 (v := ?_) rfl (by kernel_rfl) (by kernel_rfl) (by kernel_rfl) (fun _ _ _ h => h) (by kernel_rfl) ?_ (by assumption) ?_
          rotate_left
          · intro w hSw; (try dsimp only at hSw); first | (go_simp; done) | (go_simp; with_reducible rfl)
          try simp only [Act.put, List.setIfInBounds_toArray, List.set_cons_zero, List.set_cons_succ]
          refine takeL 5 (v := ?_) rfl (by kernel_rfl) (by kernel_rfl) (by kernel_rfl) (fun _ _ _ h => h) (by kernel_rfl) ?_ (by assumption) ?_
          rotate_left
          · intro w hSw; (try dsimp only at hSw); first | (go_simp; done) | (go_simp; with_reducible rfl)
          try simp only [Act.put, List.setIfInBounds_toArray, List.set_cons_zero, List.set_cons_succ]
          refine takeL 6 (v := ?_) rfl (by kernel_rfl) (by kernel_rfl) (by kernel_rfl) (fun _ _ _ h => h) (by kernel_rfl) ?_ (by assumption) ?_
          rotate_left
          · intro w hSw; (try dsimp only at hSw); first | (go_simp; done) | (go_simp; with_reducible rfl)
          try simp only [Act.put, List.setIfInBounds_toArray, List.set_cons_zero, List.set_cons_succ]
          refine callL 7 rfl (by kernel_rfl) (fun K hK => ?_)
          go_simp
          refine (hdf _ (HA.out.below S1.out.2.1)).mono ?_
          rintro e w2 ⟨rfl, b2⟩
          have S2 : Hid (HSt w w2 w.heap.size h.prev h.root h.time h.diff h.nonce) := S1.out.call b2
          go_wp2_with fail
          refine hK.out _ _ ?_ (fun hHeld => ?_)
          · first | (with_reducible exact S3.out.out) | (with_reducible exact S2.out.out) | (with_reducible exact S1.out.out)
          clear hK K
          try simp only [Act.put, List.setIfInBounds_toArray, List.set_cons_zero, List.set_cons_succ]
          refine takeL 8 (v := ?_) rfl (by kernel_rfl) (by kernel_rfl) (by kernel_rfl) (fun _ _ _ h => h) (by kernel_rfl) ?_ (by assumption) ?_
          rotate_left
          · intro w hSw; (try dsimp only at hSw); first | (go_simp; done) | (go_simp; with_reducible rfl)
          try simp only [Act.put, List.setIfInBounds_toArray, List.set_cons_zero, List.set_cons_succ]
          refine takeL 9 (v := ?_) rfl (by kernel_rfl) (by kernel_rfl) (by kernel_rfl) (fun _ _ _ h => h) (by kernel_rfl) ?_ (by assumption) ?_
          rotate_left
          · intro w hSw; (try dsimp only at hSw); first | (go_simp; done) | (go_simp; with_reducible rfl)
          try simp only [Act.put, List.setIfInBounds_toArray, List.set_cons_zero, List.set_cons_succ]
          refine takeL 10 (v := ?_) rfl (by kernel_rfl) (by kernel_rfl) (by kernel_rfl) (fun _ _ _ h => h) (by kernel_rfl) ?_ (by assumption) ?_
          rotate_left
          · intro w hSw; (try dsimp only at hSw); first | (go_simp; done) | (go_simp; with_reducible rfl)
          try simp only [Act.put, List.setIfInBounds_toArray, List.set_cons_zero, List.set_cons_succ]
          refine takeL 11 (v := ?_) rfl (by kernel_rfl) (by kernel_rfl) (by kernel_rfl) (fun _ _ _ h => h) (by kernel_rfl) ?_ (by assumption) ?_
          rotate_left
          · intro w hSw; (try dsimp only at hSw); first | (go_simp; done) | (go_simp; with_reducible rfl)
          try simp only [Act.put, List.setIfInBounds_toArray, List.set_cons_zero, List.set_cons_succ]
          refine callL 12 rfl (by kernel_rfl) (fun K hK => ?_)
          go_simp
          refine (hmt _).mono ?_
          rintro e w3 ⟨rfl, b3⟩
          have S3 : Hid (HSt w w3 w.heap.size h.prev h.root h.time h.diff h.nonce) := S2.out.call b3
          go_wp2_with fail
          refine hK.out _ _ ?_ (fun hHeld => ?_)
          · first | (with_reducible exact S3.out.out) | (with_reducible exact S2.out.out) | (with_reducible exact S1.out.out)
          clear hK K
          try simp only [Act.put, List.setIfInBounds_toArray, List.set_cons_zero, List.set_cons_succ]
          refine takeL 13 (v := ?_) rfl (by kernel_rfl) (by kernel_rfl) (by kernel_rfl) (fun _ _ _ h => h) (by kernel_rfl) ?_ (by assumption) ?_
          rotate_left
          · intro w hSw; (try dsimp only at hSw); first | (go_simp; done) | (go_simp; with_reducible rfl)
          try simp only [Act.put, List.setIfInBounds_toArray, List.set_cons_zero, List.set_cons_succ]
          refine takeL 14 (v := ?_) rfl (by kernel_rfl) (by kernel_rfl) (by kernel_rfl) (fun _ _ _ h => h) (by kernel_rfl) ?_ (by assumption) ?_
          rotate_left
          · intro w hSw; (try dsimp only at hSw); first | (go_simp; done) | (go_simp; with_reducible rfl)
          try simp only [Act.put, List.setIfInBounds_toArray, List.set_cons_zero, List.set_cons_succ]
          refine wpAnyH_done (by kernel_rfl) ?_ _
          refine NoPanic.normal ?_
          go_wp2_with fail
          refine wp_region_noPanic ?_
          refine wp_region_held_drew (S := fun w' => (w'.cell? ⟨w.heap.size, 0, none⟩ = some (.string h.prev) ∧ w'.cell? ⟨w.heap.size, 1, none⟩ = some (.string h.root) ∧ w'.cell? ⟨w.heap.size, 2, none⟩ = some (.int .i64 h.time) ∧ w'.cell? ⟨w.heap.size, 3, none⟩ = some (.int .i64 h.diff) ∧ w'.cell? ⟨w.heap.size, 4, none⟩ = some (.int .i64 h.nonce)) ∧ w'.cell? ⟨g, j * 5, none⟩ = some (.string p.prev) ∧ w'.cell? ⟨g, j * 5 + 1, none⟩ = some (.string p.root) ∧ w'.cell? ⟨g, j * 5 + 2, none⟩ = some (.int .i64 p.time) ∧ w'.cell? ⟨g, j * 5 + 3, none⟩ = some (.int .i64 p.diff) ∧ w'.cell? ⟨g, j * 5 + 4, none⟩ = some (.int .i64 p.nonce)) (by kernel_rfl) (⟨S3.out.drew.out, HLC.out _ S3.out.drew.2.1⟩) (fun hHeld => ?_)
          refine takeL 0 (v := ?_) rfl (by kernel_rfl) (by kernel_rfl) (by kernel_rfl) (fun _ _ _ h => h) (by kernel_rfl) ?_ (by assumption) ?_
          rotate_left
          · intro w hSw; (try dsimp only at hSw); first | (go_simp; done) | (go_simp; with_reducible rfl)
          try simp only [Act.put, List.setIfInBounds_toArray, List.set_cons_zero, List.set_cons_succ]
          refine takeL 1 (v := ?_) rfl (by kernel_rfl) (by kernel_rfl) (by kernel_rfl) (fun _ _ _ h => h) (by kernel_rfl) ?_ (by assumption) ?_
          rotate_left
          · intro w hSw; (try dsimp only at hSw); first | (go_simp; done) | (go_simp; with_reducible rfl)
          try simp only [Act.put, List.setIfInBounds_toArray, List.set_cons_zero, List.set_cons_succ]
          refine takeL 2 (v := ?_) rfl (by kernel_rfl) (by kernel_rfl) (by kernel_rfl) (fun _ _ _ h => h) (by kernel_rfl) ?_ (by assumption) ?_
          rotate_left
          · intro w hSw; (try dsimp only at hSw); first | (go_simp; done) | (go_simp; with_reducible rfl)
          try simp only [Act.put, List.setIfInBounds_toArray, List.set_cons_zero, List.set_cons_succ]
          refine takeL 3 (v := ?_) rfl (by kernel_rfl) (by kernel_rfl) (by kernel_rfl) (fun _ _ _ h => h) (by kernel_rfl) ?_ (by assumption) ?_
          rotate_left
          · intro w hSw; (try dsimp only at hSw); first | (go_simp; done) | (go_simp; with_reducible rfl)
          try simp only [Act.put, List.setIfInBounds_toArray, List.set_cons_zero, List.set_cons_succ]
          refine takeL 4 (v := ?_) rfl (by kernel_rfl) (by kernel_rfl) (by kernel_rfl) (fun _ _ _ h => h) (by kernel_rfl) ?_ (by assumption) ?_
          rotate_left
          · intro w hSw; (try dsimp only at hSw); first | (go_simp; done) | (go_simp; with_reducible rfl)
          try simp only [Act.put, List.setIfInBounds_toArray, List.set_cons_zero, List.set_cons_succ]
          refine takeL 5 (v := ?_) rfl (by kernel_rfl) (by kernel_rfl) (by kernel_rfl) (fun _ _ _ h => h) (by kernel_rfl) ?_ (by assumption) ?_
          rotate_left
          · intro w hSw; (try dsimp only at hSw); first | (go_simp; done) | (go_simp; with_reducible rfl)
          try simp only [Act.put, List.setIfInBounds_toArray, List.set_cons_zero, List.set_cons_succ]
          refine takeL 6 (v := ?_) rfl (by kernel_rfl) (by kernel_rfl) (by kernel_rfl) (fun _ _ _ h => h) (by kernel_rfl) ?_ (by assumption) ?_
          rotate_left
          · intro w hSw; (try dsimp only at hSw); first | (go_simp; done) | (go_simp; with_reducible rfl)
          try simp only [Act.put, List.setIfInBounds_toArray, List.set_cons_zero, List.set_cons_succ]
          refine callL 7 rfl (by kernel_rfl) (fun K hK => ?_)
          go_simp
          refine (hls2 _).mono ?_
          rintro e w4 ⟨rfl, b4⟩
          have S4 : Hid (HSt w w4 w.heap.size h.prev h.root h.time h.diff h.nonce) := S3.out.drew.call b4
          go_wp2_with fail
          refine hK.out _ _ ?_ (fun hHeld => ?_)
          · exact ⟨S4.out.out, HLC.out _ S4.out.2.1⟩
          clear hK K
          try simp only [Act.put, List.setIfInBounds_toArray, List.set_cons_zero, List.set_cons_succ]
          refine takeL 8 (v := ?_) rfl (by kernel_rfl) (by kernel_rfl) (by kernel_rfl) (fun _ _ _ h => h) (by kernel_rfl) ?_ (by assumption) ?_
          rotate_left
          · intro w hSw; (try dsimp only at hSw); first | (go_simp; done) | (go_simp; with_reducible rfl)
          try simp only [Act.put, List.setIfInBounds_toArray, List.set_cons_zero, List.set_cons_succ]
          refine takeL 9 (v := ?_) rfl (by kernel_rfl) (by kernel_rfl) (by kernel_rfl) (fun _ _ _ h => h) (by kernel_rfl) ?_ (by assumption) ?_
          rotate_left
          · intro w hSw; (try dsimp only at hSw); first | (go_simp; done) | (go_simp; with_reducible rfl)
          try simp only [Act.put, List.setIfInBounds_toArray, List.set_cons_zero, List.set_cons_succ]
          refine skipL 10 rfl (by kernel_rfl) (by kernel_rfl) (by kernel_rfl) (fun _ _ _ h => h) (by kernel_rfl) (by assumption) ?_
          try simp only [Act.put, List.setIfInBounds_toArray, List.set_cons_zero, List.set_cons_succ]
          refine skipL 11 rfl (by kernel_rfl) (by kernel_rfl) (by kernel_rfl) (fun _ _ _ h => h) (by kernel_rfl) (by assumption) ?_
          try simp only [Act.put, List.setIfInBounds_toArray, List.set_cons_zero, List.set_cons_succ]
          refine skipL 12 rfl (by kernel_rfl) (by kernel_rfl) (by kernel_rfl) (fun _ _ _ h => h) (by kernel_rfl) (by assumption) ?_
          try simp only [Act.put, List.setIfInBounds_toArray, List.set_cons_zero, List.set_cons_succ]
          refine skipL 13 rfl (by kernel_rfl) (by kernel_rfl) (by kernel_rfl) (fun _ _ _ h => h) (by kernel_rfl) (by assumption) ?_
          try simp only [Act.put, List.setIfInBounds_toArray, List.set_cons_zero, List.set_cons_succ]
          refine skipL 14 rfl (by kernel_rfl) (by kernel_rfl) (by kernel_rfl) (fun _ _ _ h => h) (by kernel_rfl) (by assumption) ?_
          try simp only [Act.put, List.setIfInBounds_toArray, List.set_cons_zero, List.set_cons_succ]
          refine skipL 15 rfl (by kernel_rfl) (by kernel_rfl) (by kernel_rfl) (fun _ _ _ h => h) (by kernel_rfl) (by assumption) ?_
          try simp only [Act.put, List.setIfInBounds_toArray, List.set_cons_zero, List.set_cons_succ]
          refine skipL 16 rfl (by kernel_rfl) (by kernel_rfl) (by kernel_rfl) (fun _ _ _ h => h) (by kernel_rfl) (by assumption) ?_
          try simp only [Act.put, List.setIfInBounds_toArray, List.set_cons_zero, List.set_cons_succ]
          refine skipL 17 rfl (by kernel_rfl) (by kernel_rfl) (by kernel_rfl) (fun _ _ _ h => h) (by kernel_rfl) (by assumption) ?_
          try simp only [Act.put, List.setIfInBounds_toArray, List.set_cons_zero, List.set_cons_succ]
          refine skipL 18 rfl (by kernel_rfl) (by kernel_rfl) (by kernel_rfl) (fun _ _ _ h => h) (by kernel_rfl) (by assumption) ?_
          try simp only [Act.put, List.setIfInBounds_toArray, List.set_cons_zero, List.set_cons_succ]
          refine takeL 19 (v := ?_) rfl (by kernel_rfl) (by kernel_rfl) (by kernel_rfl) (fun _ _ _ h => h) (by kernel_rfl) ?_ (by assumption) ?_
          rotate_left
          · intro w hSw; (try dsimp only at hSw); first | (go_simp; done) | (go_simp; with_reducible rfl)
          try simp only [Act.put, List.setIfInBounds_toArray, List.set_cons_zero, List.set_cons_succ]
          refine takeL 20 (v := ?_) rfl (by kernel_rfl) (by kernel_rfl) (by kernel_rfl) (fun _ _ _ h => h) (by kernel_rfl) ?_ (by assumption) ?_
          rotate_left
          · intro w hSw; (try dsimp only at hSw); first | (go_simp; done) | (go_simp; with_reducible rfl)
          try simp only [Act.put, List.setIfInBounds_toArray, List.set_cons_zero, List.set_cons_succ]
          refine wpAnyH_done (by kernel_rfl) ?_ _
          refine NoPanic.normal ?_
          go_wp2_with fail
          go_ret
          exact ⟨by rw [HV2.out]; rfl, S4.out.2.1⟩
    · have HV : Hid (fitsB l h = false) := fits_no3 hdi
      rw [hok] at hck
      generalize hardV l = H at hdf hdi
      have hne1 : (h.diff == H) = false := by simpa using hdi
      have hne2 : (h.diff != H) = true := by simpa using hdi
      unfold headVal at hmt ⊢
      clear hA hp hr hok
      go_enter Tryz.func66, Tryz.ntmps66
      go_wp2_with fail
      refine wp_region_noPanic ?_
      refine wp_region_held_drew (S := fun w' => w'.cell? ⟨w.heap.size, 0, none⟩ = some (.string h.prev) ∧ w'.cell? ⟨w.heap.size, 1, none⟩ = some (.string h.root) ∧ w'.cell? ⟨w.heap.size, 2, none⟩ = some (.int .i64 h.time) ∧ w'.cell? ⟨w.heap.size, 3, none⟩ = some (.int .i64 h.diff) ∧ w'.cell? ⟨w.heap.size, 4, none⟩ = some (.int .i64 h.nonce)) (by kernel_rfl) (S0.drew.out) (fun hHeld => ?_)
      refine takeL 0 (v := ?_) rfl (by kernel_rfl) (by kernel_rfl) (by kernel_rfl) (fun _ _ _ h => h) (by kernel_rfl) ?_ (by assumption) ?_
      rotate_left
      · intro w hSw; (try dsimp only at hSw); first | (go_simp; done) | (go_simp; with_reducible rfl)
      try simp only [Act.put, List.setIfInBounds_toArray, List.set_cons_zero, List.set_cons_succ]
      refine callL 1 rfl (by kernel_rfl) (fun K hK => ?_)
      go_simp
      refine (hck _).mono ?_
      rintro e w1 ⟨rfl, b1⟩
      have S1 : Hid (HSt w w1 w.heap.size h.prev h.root h.time h.diff h.nonce) := S0.drew.call b1
      go_wp2_with fail
      refine hK.out _ _ ?_ (fun hHeld => ?_)
      · first | (with_reducible exact S3.out.out) | (with_reducible exact S2.out.out) | (with_reducible exact S1.out.out)
      clear hK K
      try simp only [Act.put, List.setIfInBounds_toArray, List.set_cons_zero, List.set_cons_succ]
      refine takeL 2 (v := ?_) rfl (by kernel_rfl) (by kernel_rfl) (by kernel_rfl) (fun _ _ _ h => h) (by kernel_rfl) ?_ (by assumption) ?_
      rotate_left
      · intro w hSw; (try dsimp only at hSw); first | (go_simp; done) | (go_simp; with_reducible rfl)
      try simp only [Act.put, List.setIfInBounds_toArray, List.set_cons_zero, List.set_cons_succ]
      refine takeL 3 (v := ?_) rfl (by kernel_rfl) (by kernel_rfl) (by kernel_rfl) (fun _ _ _ h => h) (by kernel_rfl) ?_ (by assumption) ?_
      rotate_left
      · intro w hSw; (try dsimp only at hSw); first | (go_simp; done) | (go_simp; with_reducible rfl)
      try simp only [Act.put, List.setIfInBounds_toArray, List.set_cons_zero, List.set_cons_succ]
      refine takeL 4 (v := ?_) rfl (by kernel_rfl) (by kernel_rfl) (by kernel_rfl) (fun _ _ _ h => h) (by kernel_rfl) ?_ (by assumption) ?_
      rotate_left
      · intro w hSw; (try dsimp only at hSw); first | (go_simp; done) | (go_simp; with_reducible rfl)
      try simp only [Act.put, List.setIfInBounds_toArray, List.set_cons_zero, List.set_cons_succ]
      refine takeL 5 (v := ?_) rfl (by kernel_rfl) (by kernel_rfl) (by kernel_rfl) (fun _ _ _ h => h) (by kernel_rfl) ?_ (by assumption) ?_
      rotate_left
      · intro w hSw; (try dsimp only at hSw); first | (go_simp; done) | (go_simp; with_reducible rfl)
      try simp only [Act.put, List.setIfInBounds_toArray, List.set_cons_zero, List.set_cons_succ]
      refine takeL 6 (v := ?_) rfl (by kernel_rfl) (by kernel_rfl) (by kernel_rfl) (fun _ _ _ h => h) (by kernel_rfl) ?_ (by assumption) ?_
      rotate_left
      · intro w hSw; (try dsimp only at hSw); first | (go_simp; done) | (go_simp; with_reducible rfl)
      try simp only [Act.put, List.setIfInBounds_toArray, List.set_cons_zero, List.set_cons_succ]
      refine callL 7 rfl (by kernel_rfl) (fun K hK => ?_)
      go_simp
      refine (hdf _ (HA.out.below S1.out.2.1)).mono ?_
      rintro e w2 ⟨rfl, b2⟩
      have S2 : Hid (HSt w w2 w.heap.size h.prev h.root h.time h.diff h.nonce) := S1.out.call b2
      go_wp2_with fail
      refine hK.out _ _ ?_ (fun hHeld => ?_)
      · first | (with_reducible exact S3.out.out) | (with_reducible exact S2.out.out) | (with_reducible exact S1.out.out)
      clear hK K
      try simp only [Act.put, List.setIfInBounds_toArray, List.set_cons_zero, List.set_cons_succ]
      refine takeL 8 (v := ?_) rfl (by kernel_rfl) (by kernel_rfl) (by kernel_rfl) (fun _ _ _ h => h) (by kernel_rfl) ?_ (by assumption) ?_
      rotate_left
      · intro w hSw; (try dsimp only at hSw); first | (go_simp; done) | (go_simp; with_reducible rfl)
      try simp only [Act.put, List.setIfInBounds_toArray, List.set_cons_zero, List.set_cons_succ]
      refine takeL 9 (v := ?_) rfl (by kernel_rfl) (by kernel_rfl) (by kernel_rfl) (fun _ _ _ h => h) (by kernel_rfl) ?_ (by assumption) ?_
      rotate_left
      · intro w hSw; (try dsimp only at hSw); first | (go_simp; done) | (go_simp; with_reducible rfl)
      try simp only [Act.put, List.setIfInBounds_toArray, List.set_cons_zero, List.set_cons_succ]
      refine takeL 10 (v := ?_) rfl (by kernel_rfl) (by kernel_rfl) (by kernel_rfl) (fun _ _ _ h => h) (by kernel_rfl) ?_ (by assumption) ?_
      rotate_left
      · intro w hSw; (try dsimp only at hSw); first | (go_simp; done) | (go_simp; with_reducible rfl)
      try simp only [Act.put, List.setIfInBounds_toArray, List.set_cons_zero, List.set_cons_succ]
      refine skipL 11 rfl (by kernel_rfl) (by kernel_rfl) (by kernel_rfl) (fun _ _ _ h => h) (by kernel_rfl) (by assumption) ?_
      try simp only [Act.put, List.setIfInBounds_toArray, List.set_cons_zero, List.set_cons_succ]
      refine skipL 12 rfl (by kernel_rfl) (by kernel_rfl) (by kernel_rfl) (fun _ _ _ h => h) (by kernel_rfl) (by assumption) ?_
      try simp only [Act.put, List.setIfInBounds_toArray, List.set_cons_zero, List.set_cons_succ]
      refine skipL 13 rfl (by kernel_rfl) (by kernel_rfl) (by kernel_rfl) (fun _ _ _ h => h) (by kernel_rfl) (by assumption) ?_
      try simp only [Act.put, List.setIfInBounds_toArray, List.set_cons_zero, List.set_cons_succ]
      refine takeL 14 (v := ?_) rfl (by kernel_rfl) (by kernel_rfl) (by kernel_rfl) (fun _ _ _ h => h) (by kernel_rfl) ?_ (by assumption) ?_
      rotate_left
      · intro w hSw; (try dsimp only at hSw); first | (go_simp; done) | (go_simp; with_reducible rfl)
      try simp only [Act.put, List.setIfInBounds_toArray, List.set_cons_zero, List.set_cons_succ]
      refine wpAnyH_done (by kernel_rfl) ?_ _
      refine NoPanic.normal ?_
      go_wp2_with fail
      go_ret
      exact ⟨by rw [HV.out]; rfl, S2.out.2.1⟩

end Go.Proofs.YtoifgpmbeicmnaaGreatDoor

