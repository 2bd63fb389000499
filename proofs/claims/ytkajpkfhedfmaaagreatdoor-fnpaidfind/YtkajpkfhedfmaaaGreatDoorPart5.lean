/-
  Texts that the last part needs, joined.
-/
import Derived.Test.YtkajpkfhedfmaaaGreatDoorPart1
import Derived.Test.YtkajpkfhedfmaaaGreatDoorPart2
import Derived.Test.YtkajpkfhedfmaaaGreatDoorPart3
import Derived.Test.YtkajpkfhedfmaaaGreatDoorPart4
import Derived.BigRegion
import Derived.Deep.RegionWith
import Derived.Deep.RegionHeld3
import Derived.Test.YtkajpkfhedfmaaaGreatDoorProg
import Derived.Laws.ResultCell
import Derived.OwnWalk
set_option linter.unusedVariables false
namespace Go.Proofs.YtkajpkfhedfmaaaGreatDoor
open Go.RowKit Go.Deep

theorem hard_0 {l : List HeadV} (h : l.length = 0) : hardV l = 1 := by rw [hardV, if_pos h]
theorem hard_odd {l : List HeadV} (h : l.length ≠ 0) (h4 : l.length % 4 ≠ 0) : hardV l = (lastH l).diff := by rw [hardV, if_neg h, if_neg h4]
theorem hard_low {l : List HeadV} (h : l.length ≠ 0) (h4 : l.length % 4 = 0) (hs : spanH l < 20) : hardV l = min ((lastH l).diff + 1) 8 := by rw [hardV, if_neg h, if_pos h4, if_pos hs]
theorem hard_high {l : List HeadV} (h : l.length ≠ 0) (h4 : l.length % 4 = 0) (hs : 60 < spanH l) : hardV l = max ((lastH l).diff - 1) 1 := by rw [hardV, if_neg h, if_pos h4, if_neg (by omega), if_pos hs]
theorem hard_mid {l : List HeadV} (h : l.length ≠ 0) (h4 : l.length % 4 = 0) (h1 : ¬ spanH l < 20) (h2 : ¬ 60 < spanH l) : hardV l = (lastH l).diff := by rw [hardV, if_neg h, if_pos h4, if_neg h1, if_neg h2]

set_option maxHeartbeats 1000000 in
set_option maxRecDepth 100000 in
theorem implChainHard (g n cap : Nat) (l : List HeadV) (w : World) (h : AtHead w g l) (hn : n = l.length) (hm : n ≤ 1048576) (hok : ∀ i, i < l.length → headOkB (l.getD i default) = true) :
    Calls Tryz.prog 141 #[.slice (some ⟨g, 0, none⟩) n cap] w fun e w' => e = .returned (.int .i64 (hardV l)) ∧ Below w.heap.size w w' := by
  have hb : ∀ o, Below w.heap.size w (w.alloc o) := fun o => (Below.refl _ w).alloc (Nat.le_refl _) o
  have hb2 : ∀ o, Below w.heap.size w (w.alloc o).drew := fun o => (hb o).drew
  by_cases h0 : n = 0
  · have HV : Hid (hardV l = 1) := hard_0 (by omega)
    subst h0
    clear h hn hok
    go_enter Tryz.func141, Tryz.ntmps141
    go_wp2_with fail
    go_ret
    exact ⟨by rw [HV.out]; rfl, Below.refl _ _⟩
  obtain ⟨j, hj⟩ : ∃ j, n = j + 1 := ⟨n - 1, by omega⟩
  have hjl : j < l.length := by omega
  have c0 := AtHead.c0 h j hjl
  have c1 := AtHead.c1 h j hjl
  have c2 := AtHead.c2 h j hjl
  have c3 := AtHead.c3 h j hjl
  have c4 := AtHead.c4 h j hjl
  have HL : lastH l = l.getD j default := by rw [lastH, ← hn, hj, Nat.add_sub_cancel]
  have hgl := h.1
  have hw1 : IntKind.i64.wrap ((n : Int) - 1) = (j : Int) := by rw [IntKind.wrap_i64]; omega
  have lj : (j : Int) < (n : Int) := by omega
  have lj0 : (0 : Int) ≤ (j : Int) := by omega
  have hn0 : ¬ (n : Int) = 0 := by omega
  obtain ⟨_, _, ht, hd, _⟩ := headOk_in (hok j hjl)
  have hrem : (n : Int).tmod 4 = ((n % 4 : Nat) : Int) := rfl
  by_cases h4 : n % 4 = 0
  · obtain ⟨i, hi⟩ : ∃ i, n = i + 4 := ⟨n - 4, by omega⟩
    have hil : i < l.length := by omega
    have d2 := AtHead.c2 h i hil
    obtain ⟨_, _, ht2, _⟩ := headOk_in (hok i hil)
    have HSP : spanH l = (l.getD j default).time - (l.getD i default).time := by rw [spanH, HL, ← hn, hi, Nat.add_sub_cancel]
    have hw4 : IntKind.i64.wrap ((n : Int) - 4) = (i : Int) := by rw [IntKind.wrap_i64]; omega
    have li : (i : Int) < (n : Int) := by omega
    have li0 : (0 : Int) ≤ (i : Int) := by omega
    have HLO : Hid (spanH l < 20 → hardV l = min ((l.getD j default).diff + 1) 8) := fun hs => by rw [hard_low (by omega) (by rw [← hn]; exact h4) hs, HL]
    have HHI : Hid (60 < spanH l → hardV l = max ((l.getD j default).diff - 1) 1) := fun hs => by rw [hard_high (by omega) (by rw [← hn]; exact h4) hs, HL]
    have HMI : Hid (¬ spanH l < 20 → ¬ 60 < spanH l → hardV l = (l.getD j default).diff) := fun h1 h2 => by rw [hard_mid (by omega) (by rw [← hn]; exact h4) h1 h2, HL]
    rw [HSP] at HLO HHI HMI
    rw [h4] at hrem
    generalize hardV l = H at HLO HHI HMI ⊢
    generalize l.getD j default = p at c0 c1 c2 c3 c4 ht hd HLO HHI HMI
    generalize l.getD i default = q at d2 ht2 HLO HHI HMI
    have hws : IntKind.i64.wrap (p.time - q.time) = p.time - q.time := by rw [IntKind.wrap_i64]; omega
    have hwa : IntKind.i64.wrap (p.diff + 1) = p.diff + 1 := by rw [IntKind.wrap_i64]; omega
    have hwb : IntKind.i64.wrap (p.diff - 1) = p.diff - 1 := by rw [IntKind.wrap_i64]; omega
    clear h hok HL HSP hjl hil hn hj hi h0 h4 hm
    have S0 : HSt w _ w.heap.size p.prev p.root p.time p.diff p.nonce := HSt.new w 36 p.prev p.root p.time p.diff p.nonce
    have f2 := S0.drew.out.2.2.1
    have f3 := S0.drew.out.2.2.2.1
    have f4 : ((w.alloc (.cells #[.string p.prev, .string p.root, .int .i64 p.time, .int .i64 p.diff, .int .i64 p.nonce] 36)).drew).cell? ⟨g, i * 5 + 2, none⟩ = some (.int .i64 q.time) := by
      rw [S0.drew.2.1.cell (p := ⟨g, i * 5 + 2, none⟩) hgl]; exact d2
    clear S0
    by_cases hs : p.time - q.time < 20
    · have HV : Hid (H = min (p.diff + 1) 8) := HLO.out hs
      clear HLO HHI HMI
      go_enter Tryz.func141, Tryz.ntmps141
      go_wp2_with fail
      go_big_region
      go_wp2_with fail
      go_ret
      exact ⟨by rw [HV.out]; rfl, hb2 _⟩
    · by_cases hs2 : 60 < p.time - q.time
      · have HV : Hid (H = max (p.diff - 1) 1) := HHI.out hs2
        clear HLO HHI HMI
        go_enter Tryz.func141, Tryz.ntmps141
        go_wp2_with fail
        go_big_region
        go_wp2_with fail
        go_ret
        exact ⟨by rw [HV.out]; rfl, hb2 _⟩
      · have HV : Hid (H = p.diff) := HMI.out hs hs2
        clear HLO HHI HMI
        go_enter Tryz.func141, Tryz.ntmps141
        go_wp2_with fail
        go_big_region
        go_wp2_with fail
        go_ret
        exact ⟨by rw [HV.out]; rfl, hb2 _⟩
  · have HV : Hid (hardV l = (l.getD j default).diff) := by show _ = _; rw [hard_odd (by omega) (by rw [← hn]; exact h4), HL]
    have hr4 : ¬ ((n % 4 : Nat) : Int) = 0 := by omega
    generalize hardV l = H at HV ⊢
    generalize n % 4 = r at hrem hr4
    generalize l.getD j default = p at c0 c1 c2 c3 c4 ht hd HV
    clear h hok HL hjl hn hj h0 h4 hm
    go_enter Tryz.func141, Tryz.ntmps141
    go_wp2_with fail
    go_ret
    exact ⟨by rw [HV.out]; rfl, hb _⟩

set_option maxHeartbeats 1000000 in
set_option maxRecDepth 100000 in
theorem implChainPrev (g n cap : Nat) (l : List HeadV) (w : World) (h : AtHead w g l) (hn : n = l.length) (hm : n ≤ 1048576) (hok : ∀ i, i < l.length → headOkB (l.getD i default) = true) (hK : RowG w shaK) (hP : TabP w) :
    Calls Tryz.prog 143 #[.slice (some ⟨g, 0, none⟩) n cap] w fun e w' => e = .returned (.string (prevV l)) ∧ Below w.heap.size w w' := by
  by_cases h0 : n = 0
  · have HV : Hid (prevV l = zeros16) := by show _ = _; rw [prevV, if_pos (by omega)]
    subst h0
    clear h hn hok hK hP
    go_enter Tryz.func143, Tryz.ntmps143
    go_wp2_with fail
    go_ret
    exact ⟨by rw [HV.out]; rfl, Below.refl _ _⟩
  obtain ⟨j, hj⟩ : ∃ j, n = j + 1 := ⟨n - 1, by omega⟩
  have hjl : j < l.length := by omega
  have c0 := AtHead.c0 h j hjl
  have c1 := AtHead.c1 h j hjl
  have c2 := AtHead.c2 h j hjl
  have c3 := AtHead.c3 h j hjl
  have c4 := AtHead.c4 h j hjl
  have hw1 : IntKind.i64.wrap ((n : Int) - 1) = (j : Int) := by rw [IntKind.wrap_i64]; omega
  have lj : (j : Int) < (n : Int) := by omega
  have lj0 : (0 : Int) ≤ (j : Int) := by omega
  have hn0 : ¬ (n : Int) = 0 := by omega
  have HV : Hid (prevV l = ⟨(headSum (l.getD j default)).toArray⟩) := by
    show _ = _
    rw [prevV, if_neg (by omega), sumH, headSum_yes (hok j hjl), lastH, ← hn, hj, Nat.add_sub_cancel]
  have hsm := implHeadSum (l.getD j default) w hK hP
  unfold headVal at hsm
  generalize headSum (l.getD j default) = sb at hsm HV
  generalize l.getD j default = p at c0 c1 c2 c3 c4 hsm
  clear h hok hK hP hjl hn hj h0 hm
  go_enter Tryz.func143, Tryz.ntmps143
  go_wp2_with fail
  refine hsm.mono ?_
  rintro e w1 ⟨rfl, b1⟩
  go_wp2_with fail
  go_ret
  exact ⟨by rw [HV.out]; rfl, b1⟩

set_option maxHeartbeats 1000000 in
set_option maxRecDepth 100000 in
theorem implChainLater (g n cap : Nat) (t : Int) (l : List HeadV) (w : World) (h : AtHead w g l) (hn : n = l.length) (hm : n ≤ 1048576) :
    Calls Tryz.prog 145 #[.slice (some ⟨g, 0, none⟩) n cap, .int .i64 t] w fun e w' => e = .returned (.bool (laterB l t)) ∧ Below w.heap.size w w' := by
  by_cases h0 : n = 0
  · have HV : Hid (laterB l t = true) := by show _ = _; rw [laterB, decide_eq_true (.inl (by omega))]
    subst h0
    clear h hn
    go_enter Tryz.func145, Tryz.ntmps145
    go_wp2_with fail
    go_ret
    exact ⟨by rw [HV.out]; rfl, Below.refl _ _⟩
  obtain ⟨j, hj⟩ : ∃ j, n = j + 1 := ⟨n - 1, by omega⟩
  have hjl : j < l.length := by omega
  have c2 := AtHead.c2 h j hjl
  have hw1 : IntKind.i64.wrap ((n : Int) - 1) = (j : Int) := by rw [IntKind.wrap_i64]; omega
  have lj : (j : Int) < (n : Int) := by omega
  have lj0 : (0 : Int) ≤ (j : Int) := by omega
  have hn0 : ¬ (n : Int) = 0 := by omega
  have HV : Hid (laterB l t = decide ((l.getD j default).time < t)) := by
    show _ = _
    rw [laterB, lastH, ← hn, hj, Nat.add_sub_cancel, Bool.eq_iff_iff]
    simp
  generalize (l.getD j default).time = p at c2 HV
  clear h hjl hn hj h0 hm
  go_enter Tryz.func145, Tryz.ntmps145
  go_wp2_with fail
  go_ret
  refine ⟨?_, Below.refl _ _⟩
  rw [HV.out]
  show Ending.returned (Value.bool ((n : Int) == 0 || decide (p < t))) = _
  rw [beq_eq_false_iff_ne.2 hn0, Bool.false_or]

end Go.Proofs.YtkajpkfhedfmaaaGreatDoor

set_option linter.unusedVariables false
namespace Go.Proofs.YtkajpkfhedfmaaaGreatDoor
open Go.RowKit Go.Deep

theorem sameS (a b : ByteArray) : (a.toList == b.toList) = decide (a = b) := by
  rw [Bool.eq_iff_iff, beq_iff_eq, decide_eq_true_eq, ByteArray.toList_eq, ByteArray.toList_eq]
  constructor
  · intro h
    exact ByteArray.ext (by simpa using h)
  · intro h
    rw [h]
/-- What the k-th rule says. -/
def ruleB (l : List HeadV) (h : HeadV) : Nat → Bool
  | 0 => headOkB h
  | 1 => headMeets h
  | 2 => decide (h.diff = hardV l)
  | 3 => decide (h.prev = prevV l)
  | 4 => laterB l h.time
  | _ => decide (l.length < 20)
def ruleF : Nat → FuncId
  | 0 => 138
  | 1 => 139
  | 2 => 140
  | 3 => 142
  | 4 => 144
  | _ => 146
theorem upTo6 {k : Nat} (h : k < 6) : k = 0 ∨ k = 1 ∨ k = 2 ∨ k = 3 ∨ k = 4 ∨ k = 5 := by omega
theorem stands_all {l : List HeadV} {h : HeadV} (hr : ∀ k, k < 6 → ruleB l h k = true) : standsB l h = true := by
  have h0 := hr 0 (by decide)
  have h1 := hr 1 (by decide)
  have h2 := hr 2 (by decide)
  have h3 := hr 3 (by decide)
  have h4 := hr 4 (by decide)
  have h5 := hr 5 (by decide)
  simp only [ruleB] at h0 h1 h2 h3 h4 h5
  rw [standsB, fitsB, h0, h1, h2, h3, h4, h5]
  rfl
theorem stands_no {l : List HeadV} {h : HeadV} {k : Nat} (hk : k < 6) (hr : ruleB l h k = false) : standsB l h = false := by
  rw [standsB, fitsB]
  rcases upTo6 hk with rfl | rfl | rfl | rfl | rfl | rfl <;> simp only [ruleB] at hr <;> rw [hr] <;> simp

/-- What a rule needs: the heads ahead, which are ok, and the tables. -/
structure Ahead (g n : Nat) (l : List HeadV) (w : World) : Prop where
  at_ : AtHead w g l
  len : n = l.length
  max : n ≤ 1048576
  ok : ∀ i, i < l.length → headOkB (l.getD i default) = true
  k : RowG w shaK
  p : TabP w
theorem Ahead.below {g n : Nat} {l : List HeadV} {w w' : World} (h : Ahead g n l w) (hb : Below w.heap.size w w') : Ahead g n l w' :=
  ⟨h.at_.below hb h.at_.1, h.len, h.max, h.ok, h.k.below hb h.k.lt, TabP.below h.p hb (Nat.le_refl _)⟩

set_option maxHeartbeats 1000000 in
set_option maxRecDepth 100000 in
theorem implRule0 (g n cap : Nat) (l : List HeadV) (h : HeadV) (w : World) (hA : Ahead g n l w) :
    Calls Tryz.prog 138 #[.slice (some ⟨g, 0, none⟩) n cap, headVal h] w fun e w' => e = .returned (.bool (ruleB l h 0)) ∧ Below w.heap.size w w' := by
  have HA : Hid (Ahead g n l w) := hA
  have S0 : HSt w _ w.heap.size h.prev h.root h.time h.diff h.nonce := HSt.new w 36 h.prev h.root h.time h.diff h.nonce
  have hc := fun w' => implHeadOk h w'
  show Calls _ _ _ _ fun e w' => e = .returned (.bool (headOkB h)) ∧ _
  generalize headOkB h = b at hc ⊢
  unfold headVal
  clear hA
  go_enter Tryz.func138, Tryz.ntmps138
  go_wp2_with fail
  refine (hc _).mono ?_
  rintro e w1 ⟨rfl, b1⟩
  go_wp2_with fail
  go_ret
  exact ⟨rfl, (S0.call b1).2.1⟩

set_option maxHeartbeats 1000000 in
set_option maxRecDepth 100000 in
theorem implRule1 (g n cap : Nat) (l : List HeadV) (h : HeadV) (w : World) (hA : Ahead g n l w) :
    Calls Tryz.prog 139 #[.slice (some ⟨g, 0, none⟩) n cap, headVal h] w fun e w' => e = .returned (.bool (ruleB l h 1)) ∧ Below w.heap.size w w' := by
  have HA : Hid (Ahead g n l w) := hA
  have S0 : HSt w _ w.heap.size h.prev h.root h.time h.diff h.nonce := HSt.new w 36 h.prev h.root h.time h.diff h.nonce
  have hc := fun w' (hk : RowG w' shaK) (hp : TabP w') => implHeadMeets h w' hk hp
  show Calls _ _ _ _ fun e w' => e = .returned (.bool (headMeets h)) ∧ _
  generalize headMeets h = b at hc ⊢
  unfold headVal at hc ⊢
  clear hA
  go_enter Tryz.func139, Tryz.ntmps139
  go_wp2_with fail
  refine (hc _ (HA.out.below S0.2.1).k (HA.out.below S0.2.1).p).mono ?_
  rintro e w1 ⟨rfl, b1⟩
  go_wp2_with fail
  go_ret
  exact ⟨rfl, (S0.call b1).2.1⟩

set_option maxHeartbeats 1000000 in
set_option maxRecDepth 100000 in
theorem implRule2 (g n cap : Nat) (l : List HeadV) (h : HeadV) (w : World) (hA : Ahead g n l w) :
    Calls Tryz.prog 140 #[.slice (some ⟨g, 0, none⟩) n cap, headVal h] w fun e w' => e = .returned (.bool (ruleB l h 2)) ∧ Below w.heap.size w w' := by
  have HA : Hid (Ahead g n l w) := hA
  have S0 : HSt w _ w.heap.size h.prev h.root h.time h.diff h.nonce := HSt.new w 36 h.prev h.root h.time h.diff h.nonce
  have hc := fun w' (ha : Ahead g n l w') => implChainHard g n cap l w' ha.at_ ha.len ha.max ha.ok
  show Calls _ _ _ _ fun e w' => e = .returned (.bool (decide (h.diff = hardV l))) ∧ _
  generalize hardV l = b at hc ⊢
  unfold headVal
  clear hA
  go_enter Tryz.func140, Tryz.ntmps140
  go_wp2_with fail
  go_region_held3 (fun w' => w'.cell? ⟨w.heap.size, 0, none⟩ = some (.string h.prev) ∧ w'.cell? ⟨w.heap.size, 1, none⟩ = some (.string h.root) ∧ w'.cell? ⟨w.heap.size, 2, none⟩ = some (.int .i64 h.time) ∧ w'.cell? ⟨w.heap.size, 3, none⟩ = some (.int .i64 h.diff) ∧ w'.cell? ⟨w.heap.size, 4, none⟩ = some (.int .i64 h.nonce))
    (first | (with_reducible first | exact S2.out | exact S0.out | exact S0.drew.out) | go_keep)
    (first | (go_at_call 141; refine (hc _ (HA.out.below S0.drew.2.1)).mono ?_; rintro e w2 ⟨rfl, b2⟩; have S2 : HSt w w2 w.heap.size h.prev h.root h.time h.diff h.nonce := S0.drew.call b2))
  go_wp2_with fail
  go_ret
  exact ⟨rfl, S2.2.1⟩

set_option maxHeartbeats 1000000 in
set_option maxRecDepth 100000 in
theorem implRule3 (g n cap : Nat) (l : List HeadV) (h : HeadV) (w : World) (hA : Ahead g n l w) :
    Calls Tryz.prog 142 #[.slice (some ⟨g, 0, none⟩) n cap, headVal h] w fun e w' => e = .returned (.bool (ruleB l h 3)) ∧ Below w.heap.size w w' := by
  have HA : Hid (Ahead g n l w) := hA
  have S0 : HSt w _ w.heap.size h.prev h.root h.time h.diff h.nonce := HSt.new w 36 h.prev h.root h.time h.diff h.nonce
  have hc := fun w' (ha : Ahead g n l w') => implChainPrev g n cap l w' ha.at_ ha.len ha.max ha.ok ha.k ha.p
  show Calls _ _ _ _ fun e w' => e = .returned (.bool (decide (h.prev = prevV l))) ∧ _
  generalize prevV l = b at hc ⊢
  unfold headVal
  clear hA
  go_enter Tryz.func142, Tryz.ntmps142
  go_wp2_with fail
  go_region_held3 (fun w' => w'.cell? ⟨w.heap.size, 0, none⟩ = some (.string h.prev) ∧ w'.cell? ⟨w.heap.size, 1, none⟩ = some (.string h.root) ∧ w'.cell? ⟨w.heap.size, 2, none⟩ = some (.int .i64 h.time) ∧ w'.cell? ⟨w.heap.size, 3, none⟩ = some (.int .i64 h.diff) ∧ w'.cell? ⟨w.heap.size, 4, none⟩ = some (.int .i64 h.nonce))
    (first | (with_reducible first | exact S2.out | exact S0.out | exact S0.drew.out) | go_keep)
    (first | (go_at_call 143; refine (hc _ (HA.out.below S0.drew.2.1)).mono ?_; rintro e w2 ⟨rfl, b2⟩; have S2 : HSt w w2 w.heap.size h.prev h.root h.time h.diff h.nonce := S0.drew.call b2))
  go_wp2_with fail
  go_ret
  refine ⟨?_, S2.2.1⟩
  rw [← sameS]
  rfl

set_option maxHeartbeats 1000000 in
set_option maxRecDepth 100000 in
theorem implRule4 (g n cap : Nat) (l : List HeadV) (h : HeadV) (w : World) (hA : Ahead g n l w) :
    Calls Tryz.prog 144 #[.slice (some ⟨g, 0, none⟩) n cap, headVal h] w fun e w' => e = .returned (.bool (ruleB l h 4)) ∧ Below w.heap.size w w' := by
  have HA : Hid (Ahead g n l w) := hA
  have S0 : HSt w _ w.heap.size h.prev h.root h.time h.diff h.nonce := HSt.new w 36 h.prev h.root h.time h.diff h.nonce
  have hc := fun w' (ha : Ahead g n l w') => implChainLater g n cap h.time l w' ha.at_ ha.len ha.max
  show Calls _ _ _ _ fun e w' => e = .returned (.bool (laterB l h.time)) ∧ _
  generalize laterB l h.time = b at hc ⊢
  unfold headVal
  clear hA
  go_enter Tryz.func144, Tryz.ntmps144
  go_wp2_with fail
  refine (hc _ (HA.out.below S0.2.1)).mono ?_
  rintro e w1 ⟨rfl, b1⟩
  go_wp2_with fail
  go_ret
  exact ⟨rfl, (S0.call b1).2.1⟩

set_option maxHeartbeats 1000000 in
set_option maxRecDepth 100000 in
theorem implRule5 (g n cap : Nat) (l : List HeadV) (h : HeadV) (w : World) (hA : Ahead g n l w) :
    Calls Tryz.prog 146 #[.slice (some ⟨g, 0, none⟩) n cap, headVal h] w fun e w' => e = .returned (.bool (ruleB l h 5)) ∧ Below w.heap.size w w' := by
  have HA : Hid (Ahead g n l w) := hA
  have S0 : HSt w _ w.heap.size h.prev h.root h.time h.diff h.nonce := HSt.new w 36 h.prev h.root h.time h.diff h.nonce
  show Calls _ _ _ _ fun e w' => e = .returned (.bool (decide (l.length < 20))) ∧ _
  have HV : Hid (decide (l.length < 20) = decide ((n : Int) < 20)) := by show _ = _; rw [← hA.len, Bool.eq_iff_iff]; simp; omega
  unfold headVal
  clear hA
  go_enter Tryz.func146, Tryz.ntmps146
  go_wp2_with fail
  go_ret
  exact ⟨by rw [HV.out]; rfl, S0.2.1⟩

theorem implRule (g n cap : Nat) (l : List HeadV) (h : HeadV) (k : Nat) (hk : k < 6) (w : World) (hA : Ahead g n l w) :
    Calls Tryz.prog (ruleF k) #[.slice (some ⟨g, 0, none⟩) n cap, headVal h] w fun e w' => e = .returned (.bool (ruleB l h k)) ∧ Below w.heap.size w w' := by
  rcases upTo6 hk with rfl | rfl | rfl | rfl | rfl | rfl
  · exact implRule0 g n cap l h w hA
  · exact implRule1 g n cap l h w hA
  · exact implRule2 g n cap l h w hA
  · exact implRule3 g n cap l h w hA
  · exact implRule4 g n cap l h w hA
  · exact implRule5 g n cap l h w hA
/-- The six rules in memory. -/
def RulesAt (w : World) (g : Nat) : Prop := w.heap[g]? = some (.cells #[.func (.func 138) #[] #[], .func (.func 139) #[] #[], .func (.func 140) #[] #[], .func (.func 142) #[] #[], .func (.func 144) #[] #[], .func (.func 146) #[] #[]] 188 (0, 0))

set_option maxHeartbeats 1000000 in
set_option maxRecDepth 100000 in
theorem implChainRules (w : World) :
    Calls Tryz.prog 123 #[] w fun e w' => e = .returned (.slice (some ⟨w.heap.size, 0, none⟩) 6 6) ∧ RulesAt w' w.heap.size ∧ Below w.heap.size w w' := by
  go_enter Tryz.func123, Tryz.ntmps123
  go_wp2_with fail
  go_ret
  exact ⟨rfl, heap_alloc_new w _, (Below.refl _ w).alloc (Nat.le_refl _) _⟩

end Go.Proofs.YtkajpkfhedfmaaaGreatDoor

set_option linter.unusedVariables false
namespace Go.Proofs.YtkajpkfhedfmaaaGreatDoor

section
variable {P : Program} {l : List Oper} {Q : Exit → Act → World → Prop} {md : Region.Mode} {S : World → Prop}
theorem takeL (i : Nat) {oi : Oper} {v : Value} {fuel : Nat} {listed : Array Bool} {a : Act} {w : World} (hi : l[i]? = some oi)
    (hs : Region.noSelect l.toArray = true) (hf : Region.free md l.toArray listed i = true) (hr : (Region.ready md l.toArray listed).contains i = true)
    (hQ : ∀ c a w, Q (.panic c) (a.put oi.dst v) w → Q (.panic c) a w) (hw : Region.wanted oi (yielded l.toArray a.tmps) = true) (hy : ∀ w, S w → (execOp a.eval oi).run P w = .ok (.value v) w) (hS : S w)
    (h : wpAnyH P md l.toArray Q S fuel (listed.setIfInBounds i true) (a.put oi.dst v) w) : wpAnyH P md l.toArray Q S (fuel + 1) listed a w :=
  wpAnyH_take (by simpa using hi) hs hf hr hQ (Or.inl ⟨hw, hy⟩) hS h
theorem skipL (i : Nat) {oi : Oper} {fuel : Nat} {listed : Array Bool} {a : Act} {w : World} (hi : l[i]? = some oi)
    (hs : Region.noSelect l.toArray = true) (hf : Region.free md l.toArray listed i = true) (hr : (Region.ready md l.toArray listed).contains i = true)
    (hQ : ∀ c a w, Q (.panic c) (a.put oi.dst undef) w → Q (.panic c) a w) (hw : Region.wanted oi (yielded l.toArray a.tmps) = false) (hS : S w)
    (h : wpAnyH P md l.toArray Q S fuel (listed.setIfInBounds i true) (a.put oi.dst undef) w) : wpAnyH P md l.toArray Q S (fuel + 1) listed a w :=
  wpAnyH_take (by simpa using hi) hs hf hr hQ (Or.inr ⟨hw, rfl⟩) hS h
theorem callL (i : Nat) {o : Oper} {fuel : Nat} {listed : Array Bool} {a : Act} {w : World} (ho : l[i]? = some o) (hr : Region.ready md l.toArray listed = [i])
    (h : ∀ K' : Act → World → Prop, Shut (∀ a w, S w → (S w → wpAnyH P md l.toArray Q S fuel (listed.setIfInBounds i true) a w) → K' a w) → if Region.wanted o (yielded l.toArray a.tmps) = true then Oper.wp P o a w K' Q else K' (a.put o.dst undef) w) : wpAnyH P md l.toArray Q S (fuel + 1) listed a w :=
  wpAnyH_ready hr (by simp) (AllReadyH.cons (by simpa using ho) h AllReadyH.nil)
end

end Go.Proofs.YtkajpkfhedfmaaaGreatDoor

set_option linter.unusedVariables false
namespace Go.Proofs.YtkajpkfhedfmaaaGreatDoor
open Go.RowKit Go.Deep

/-- The heads ahead, as the specification needs them. -/
structure AheadS (g n : Nat) (l : List HeadV) (w : World) : Prop where
  at_ : AtHead w g l
  len : n = l.length
  max : n ≤ 1048576
  ok : ∀ i, i < l.length → headOkB (l.getD i default) = true
theorem AheadS.below {g n : Nat} {l : List HeadV} {w w' : World} (h : AheadS g n l w) (hb : Below w.heap.size w w') : AheadS g n l w' :=
  ⟨h.at_.below hb h.at_.1, h.len, h.max, h.ok⟩

set_option maxHeartbeats 1000000 in
set_option maxRecDepth 100000 in
theorem specL4Diff (g n cap : Nat) (l : List HeadV) (w : World) (hA : AheadS g n l w) :
    Calls Tryz.prog 118 #[.slice (some ⟨g, 0, none⟩) n cap] w fun e w' => e = .returned (.int .i64 (hardV l)) ∧ Below w.heap.size w w' := by
  have hn := hA.len
  have hm := hA.max
  have hok := hA.ok
  by_cases h0 : n = 0
  · have HV : Hid (hardV l = 1) := hard_0 (by omega)
    subst h0
    clear hA hn hok
    go_enter Tryz.func118, Tryz.ntmps118
    go_wp2_with fail
    go_ret
    exact ⟨by rw [HV.out]; rfl, Below.refl _ _⟩
  obtain ⟨j, hj⟩ : ∃ j, n = j + 1 := ⟨n - 1, by omega⟩
  have hjl : j < l.length := by omega
  have c0 := AtHead.c0 hA.at_ j hjl
  have c1 := AtHead.c1 hA.at_ j hjl
  have c2 := AtHead.c2 hA.at_ j hjl
  have c3 := AtHead.c3 hA.at_ j hjl
  have c4 := AtHead.c4 hA.at_ j hjl
  have HL : lastH l = l.getD j default := by rw [lastH, ← hn, hj, Nat.add_sub_cancel]
  have hgl := hA.at_.1
  have hw1 : IntKind.i64.wrap ((n : Int) - 1) = (j : Int) := by rw [IntKind.wrap_i64]; omega
  have lj : (j : Int) < (n : Int) := by omega
  have lj0 : (0 : Int) ≤ (j : Int) := by omega
  have hn0 : ¬ (n : Int) = 0 := by omega
  obtain ⟨_, _, ht, hd, _⟩ := headOk_in (hok j hjl)
  have hrem : (n : Int).tmod 4 = ((n % 4 : Nat) : Int) := rfl
  by_cases h4 : n % 4 = 0
  · obtain ⟨i, hi⟩ : ∃ i, n = i + 4 := ⟨n - 4, by omega⟩
    have hil : i < l.length := by omega
    have d2 := AtHead.c2 hA.at_ i hil
    obtain ⟨_, _, ht2, _⟩ := headOk_in (hok i hil)
    have HSP : spanH l = (l.getD j default).time - (l.getD i default).time := by rw [spanH, HL, ← hn, hi, Nat.add_sub_cancel]
    have hw4 : IntKind.i64.wrap ((n : Int) - 4) = (i : Int) := by rw [IntKind.wrap_i64]; omega
    have li : (i : Int) < (n : Int) := by omega
    have li0 : (0 : Int) ≤ (i : Int) := by omega
    have HLO : Hid (spanH l < 20 → hardV l = min ((l.getD j default).diff + 1) 8) := fun hs => by rw [hard_low (by omega) (by rw [← hn]; exact h4) hs, HL]
    have HHI : Hid (60 < spanH l → hardV l = max ((l.getD j default).diff - 1) 1) := fun hs => by rw [hard_high (by omega) (by rw [← hn]; exact h4) hs, HL]
    have HMI : Hid (¬ spanH l < 20 → ¬ 60 < spanH l → hardV l = (l.getD j default).diff) := fun h1 h2 => by rw [hard_mid (by omega) (by rw [← hn]; exact h4) h1 h2, HL]
    rw [HSP] at HLO HHI HMI
    rw [h4] at hrem
    generalize hardV l = H at HLO HHI HMI ⊢
    generalize l.getD j default = p at c0 c1 c2 c3 c4 ht hd HLO HHI HMI
    generalize l.getD i default = q at d2 ht2 HLO HHI HMI
    have hws : IntKind.i64.wrap (p.time - q.time) = p.time - q.time := by rw [IntKind.wrap_i64]; omega
    have hwa : IntKind.i64.wrap (p.diff + 1) = p.diff + 1 := by rw [IntKind.wrap_i64]; omega
    have hwb : IntKind.i64.wrap (p.diff - 1) = p.diff - 1 := by rw [IntKind.wrap_i64]; omega
    have f2 : w.drew.cell? ⟨g, j * 5 + 2, none⟩ = some (.int .i64 p.time) := c2
    have f4 : w.drew.cell? ⟨g, i * 5 + 2, none⟩ = some (.int .i64 q.time) := d2
    clear hA hok HL HSP hjl hil hn hj hi h0 h4 hm
    by_cases hs : p.time - q.time < 20
    · by_cases hd8 : p.diff < 8
      · have HV : Hid (H = p.diff + 1) := by have := HLO.out hs; show _ = _; omega
        clear HLO HHI HMI
        go_enter Tryz.func118, Tryz.ntmps118
        go_wp2_with fail
        go_big_region
        go_wp2_with fail
        go_ret
        exact ⟨by rw [HV.out]; rfl, (Below.refl _ _).drew⟩
      · have hs2 : ¬ 60 < p.time - q.time := by omega
        have HV : Hid (H = p.diff) := by have := HLO.out hs; show _ = _; omega
        clear HLO HHI HMI
        go_enter Tryz.func118, Tryz.ntmps118
        go_wp2_with fail
        go_big_region
        go_wp2_with fail
        go_ret
        exact ⟨by rw [HV.out]; rfl, (Below.refl _ _).drew⟩
    · by_cases hs2 : 60 < p.time - q.time
      · by_cases hd1 : 1 < p.diff
        · have HV : Hid (H = p.diff - 1) := by have := HHI.out hs2; show _ = _; omega
          clear HLO HHI HMI
          go_enter Tryz.func118, Tryz.ntmps118
          go_wp2_with fail
          go_big_region
          go_wp2_with fail
          go_ret
          exact ⟨by rw [HV.out]; rfl, (Below.refl _ _).drew⟩
        · have HV : Hid (H = p.diff) := by have := HHI.out hs2; show _ = _; omega
          clear HLO HHI HMI
          go_enter Tryz.func118, Tryz.ntmps118
          go_wp2_with fail
          go_big_region
          go_wp2_with fail
          go_ret
          exact ⟨by rw [HV.out]; rfl, (Below.refl _ _).drew⟩
      · have HV : Hid (H = p.diff) := HMI.out hs hs2
        clear HLO HHI HMI
        go_enter Tryz.func118, Tryz.ntmps118
        go_wp2_with fail
        go_big_region
        go_wp2_with fail
        go_ret
        exact ⟨by rw [HV.out]; rfl, (Below.refl _ _).drew⟩
  · have HV : Hid (hardV l = (l.getD j default).diff) := by show _ = _; rw [hard_odd (by omega) (by rw [← hn]; exact h4), HL]
    have hr4 : ¬ ((n % 4 : Nat) : Int) = 0 := by omega
    generalize hardV l = H at HV ⊢
    generalize n % 4 = r at hrem hr4
    generalize l.getD j default = p at c0 c1 c2 c3 c4 ht hd HV
    clear hA hok HL hjl hn hj h0 h4 hm
    go_enter Tryz.func118, Tryz.ntmps118
    go_wp2_with fail
    go_ret
    exact ⟨by rw [HV.out]; rfl, Below.refl _ _⟩

theorem specL4Zero (w : World) : Calls Tryz.prog 119 #[] w fun e w' => e = .returned (.string zeros16) ∧ w' = w := by
  go_enter Tryz.func119, Tryz.ntmps119
  go_wp2_with fail
  go_ret
  exact ⟨rfl, rfl⟩

theorem fits_no1 {l : List HeadV} {h : HeadV} (hk : headOkB h = false) : fitsB l h = false := by rw [fitsB, hk, Bool.false_and]
theorem fits_no2 {l : List HeadV} {h : HeadV} (hk : headMeets h = false) : fitsB l h = false := by rw [fitsB, hk]; simp
theorem fits_no3 {l : List HeadV} {h : HeadV} (hk : h.diff ≠ hardV l) : fitsB l h = false := by rw [fitsB, decide_eq_false hk]; simp
theorem fits_rest {l : List HeadV} {h : HeadV} (h1 : headOkB h = true) (h2 : headMeets h = true) (h3 : h.diff = hardV l) : fitsB l h = (decide (h.prev = prevV l) && laterB l h.time) := by
  rw [fitsB, h1, h2, decide_eq_true h3]; rfl

set_option linter.unusedSimpArgs false in
set_option maxHeartbeats 8000000 in
set_option maxRecDepth 100000 in
theorem specL4Fits (g n cap : Nat) (l : List HeadV) (h : HeadV) (w : World) (hA : AheadS g n l w) (hp : h.prev.size ≤ maxLen) (hr : h.root.size ≤ maxLen) :
    Calls Tryz.prog 81 #[.slice (some ⟨g, 0, none⟩) n cap, headVal h] w fun e w' => e = .returned (.bool (fitsB l h)) ∧ Below w.heap.size w w' := by
  have HA : Hid (AheadS g n l w) := hA
  have hck := fun w' => specL3Ok h w' hp hr
  have hdf := fun w' (ha : AheadS g n l w') => specL4Diff g n cap l w' ha
  have S0 : HSt w _ w.heap.size h.prev h.root h.time h.diff h.nonce := HSt.new w 36 h.prev h.root h.time h.diff h.nonce
  cases hok : headOkB h with
  | false =>
    have HV : Hid (fitsB l h = false) := fits_no1 hok
    rw [hok] at hck
    unfold headVal
    clear hA hp hr hok
    go_enter Tryz.func81, Tryz.ntmps81
    go_wp2_with fail
    refine wp_region_noPanic ?_
    refine wp_region_held_drew (S := fun w' => w'.cell? ⟨w.heap.size, 0, none⟩ = some (.string h.prev) ∧ w'.cell? ⟨w.heap.size, 1, none⟩ = some (.string h.root) ∧ w'.cell? ⟨w.heap.size, 2, none⟩ = some (.int .i64 h.time) ∧ w'.cell? ⟨w.heap.size, 3, none⟩ = some (.int .i64 h.diff) ∧ w'.cell? ⟨w.heap.size, 4, none⟩ = some (.int .i64 h.nonce)) (by kernel_rfl) (S0.drew.out) (fun hHeld => ?_)
    refine takeL 0 (v := ?_) rfl (by kernel_rfl) (by kernel_rfl) (by kernel_rfl) (fun _ _ _ h => h) (by kernel_rfl) ?_ (by assumption) ?_
    rotate_left
    · intro w hSw; (try dsimp only at hSw); first | (go_simp; done) | (go_simp; with_reducible rfl)
    try simp only [Act.put, List.setIfInBounds_toArray, List.set_cons_zero, List.set_cons_succ]
    refine callL 1 rfl (by kernel_rfl) (fun K hK => ?_)
    go_simp
    refine (hck _).mono ?_
    rintro e w1 ⟨rfl, b1⟩
    have S1 : Hid (HSt w w1 w.heap.size h.prev h.root h.time h.diff h.nonce) := S0.drew.call b1
    go_wp2_with fail
    refine hK.out _ _ ?_ (fun hHeld => ?_)
    · first | (with_reducible exact S3.out.out) | (with_reducible exact S2.out.out) | (with_reducible exact S1.out.out)
    clear hK K
    try simp only [Act.put, List.setIfInBounds_toArray, List.set_cons_zero, List.set_cons_succ]
    refine takeL 2 (v := ?_) rfl (by kernel_rfl) (by kernel_rfl) (by kernel_rfl) (fun _ _ _ h => h) (by kernel_rfl) ?_ (by assumption) ?_
    rotate_left
    · intro w hSw; (try dsimp only at hSw); first | (go_simp; done) | (go_simp; with_reducible rfl)
    try simp only [Act.put, List.setIfInBounds_toArray, List.set_cons_zero, List.set_cons_succ]
    refine takeL 3 (v := ?_) rfl (by kernel_rfl) (by kernel_rfl) (by kernel_rfl) (fun _ _ _ h => h) (by kernel_rfl) ?_ (by assumption) ?_
    rotate_left
    · intro w hSw; (try dsimp only at hSw); first | (go_simp; done) | (go_simp; with_reducible rfl)
    try simp only [Act.put, List.setIfInBounds_toArray, List.set_cons_zero, List.set_cons_succ]
    refine skipL 4 rfl (by kernel_rfl) (by kernel_rfl) (by kernel_rfl) (fun _ _ _ h => h) (by kernel_rfl) (by assumption) ?_
    try simp only [Act.put, List.setIfInBounds_toArray, List.set_cons_zero, List.set_cons_succ]
    refine skipL 5 rfl (by kernel_rfl) (by kernel_rfl) (by kernel_rfl) (fun _ _ _ h => h) (by kernel_rfl) (by assumption) ?_
    try simp only [Act.put, List.setIfInBounds_toArray, List.set_cons_zero, List.set_cons_succ]
    refine skipL 6 rfl (by kernel_rfl) (by kernel_rfl) (by kernel_rfl) (fun _ _ _ h => h) (by kernel_rfl) (by assumption) ?_
    try simp only [Act.put, List.setIfInBounds_toArray, List.set_cons_zero, List.set_cons_succ]
    refine skipL 7 rfl (by kernel_rfl) (by kernel_rfl) (by kernel_rfl) (fun _ _ _ h => h) (by kernel_rfl) (by assumption) ?_
    try simp only [Act.put, List.setIfInBounds_toArray, List.set_cons_zero, List.set_cons_succ]
    refine skipL 8 rfl (by kernel_rfl) (by kernel_rfl) (by kernel_rfl) (fun _ _ _ h => h) (by kernel_rfl) (by assumption) ?_
    try simp only [Act.put, List.setIfInBounds_toArray, List.set_cons_zero, List.set_cons_succ]
    refine takeL 9 (v := ?_) rfl (by kernel_rfl) (by kernel_rfl) (by kernel_rfl) (fun _ _ _ h => h) (by kernel_rfl) ?_ (by assumption) ?_
    rotate_left
    · intro w hSw; (try dsimp only at hSw); first | (go_simp; done) | (go_simp; with_reducible rfl)
    try simp only [Act.put, List.setIfInBounds_toArray, List.set_cons_zero, List.set_cons_succ]
    refine takeL 10 (v := ?_) rfl (by kernel_rfl) (by kernel_rfl) (by kernel_rfl) (fun _ _ _ h => h) (by kernel_rfl) ?_ (by assumption) ?_
    rotate_left
    · intro w hSw; (try dsimp only at hSw); first | (go_simp; done) | (go_simp; with_reducible rfl)
    try simp only [Act.put, List.setIfInBounds_toArray, List.set_cons_zero, List.set_cons_succ]
    refine skipL 11 rfl (by kernel_rfl) (by kernel_rfl) (by kernel_rfl) (fun _ _ _ h => h) (by kernel_rfl) (by assumption) ?_
    try simp only [Act.put, List.setIfInBounds_toArray, List.set_cons_zero, List.set_cons_succ]
    refine skipL 12 rfl (by kernel_rfl) (by kernel_rfl) (by kernel_rfl) (fun _ _ _ h => h) (by kernel_rfl) (by assumption) ?_
    try simp only [Act.put, List.setIfInBounds_toArray, List.set_cons_zero, List.set_cons_succ]
    refine skipL 13 rfl (by kernel_rfl) (by kernel_rfl) (by kernel_rfl) (fun _ _ _ h => h) (by kernel_rfl) (by assumption) ?_
    try simp only [Act.put, List.setIfInBounds_toArray, List.set_cons_zero, List.set_cons_succ]
    refine takeL 14 (v := ?_) rfl (by kernel_rfl) (by kernel_rfl) (by kernel_rfl) (fun _ _ _ h => h) (by kernel_rfl) ?_ (by assumption) ?_
    rotate_left
    · intro w hSw; (try dsimp only at hSw); first | (go_simp; done) | (go_simp; with_reducible rfl)
    try simp only [Act.put, List.setIfInBounds_toArray, List.set_cons_zero, List.set_cons_succ]
    refine wpAnyH_done (by kernel_rfl) ?_ _
    refine NoPanic.normal ?_
    go_wp2_with fail
    go_ret
    exact ⟨by rw [HV.out]; rfl, S1.out.2.1⟩
  | true =>
    have hmt := fun w' => specL3Meets h w' hok
    by_cases hdi : h.diff = hardV l
    · cases hme : headMeets h with
      | false =>
        have HV : Hid (fitsB l h = false) := fits_no2 hme
        rw [hok] at hck
        rw [hme] at hmt
        unfold headVal at hmt ⊢
        rw [← hdi] at hdf
        clear hA hp hr hok hme hdi
        go_enter Tryz.func81, Tryz.ntmps81
        go_wp2_with fail
        refine wp_region_noPanic ?_
        refine wp_region_held_drew (S := fun w' => w'.cell? ⟨w.heap.size, 0, none⟩ = some (.string h.prev) ∧ w'.cell? ⟨w.heap.size, 1, none⟩ = some (.string h.root) ∧ w'.cell? ⟨w.heap.size, 2, none⟩ = some (.int .i64 h.time) ∧ w'.cell? ⟨w.heap.size, 3, none⟩ = some (.int .i64 h.diff) ∧ w'.cell? ⟨w.heap.size, 4, none⟩ = some (.int .i64 h.nonce)) (by kernel_rfl) (S0.drew.out) (fun hHeld => ?_)
        refine takeL 0 (v := ?_) rfl (by kernel_rfl) (by kernel_rfl) (by kernel_rfl) (fun _ _ _ h => h) (by kernel_rfl) ?_ (by assumption) ?_
        rotate_left
        · intro w hSw; (try dsimp only at hSw); first | (go_simp; done) | (go_simp; with_reducible rfl)
        try simp only [Act.put, List.setIfInBounds_toArray, List.set_cons_zero, List.set_cons_succ]
        refine callL 1 rfl (by kernel_rfl) (fun K hK => ?_)
        go_simp
        refine (hck _).mono ?_
        rintro e w1 ⟨rfl, b1⟩
        have S1 : Hid (HSt w w1 w.heap.size h.prev h.root h.time h.diff h.nonce) := S0.drew.call b1
        go_wp2_with fail
        refine hK.out _ _ ?_ (fun hHeld => ?_)
        · first | (with_reducible exact S3.out.out) | (with_reducible exact S2.out.out) | (with_reducible exact S1.out.out)
        clear hK K
        try simp only [Act.put, List.setIfInBounds_toArray, List.set_cons_zero, List.set_cons_succ]
        refine takeL 2 (v := ?_) rfl (by kernel_rfl) (by kernel_rfl) (by kernel_rfl) (fun _ _ _ h => h) (by kernel_rfl) ?_ (by assumption) ?_
        rotate_left
        · intro w hSw; (try dsimp only at hSw); first | (go_simp; done) | (go_simp; with_reducible rfl)
        try simp only [Act.put, List.setIfInBounds_toArray, List.set_cons_zero, List.set_cons_succ]
        refine takeL 3 (v := ?_) rfl (by kernel_rfl) (by kernel_rfl) (by kernel_rfl) (fun _ _ _ h => h) (by kernel_rfl) ?_ (by assumption) ?_
        rotate_left
        · intro w hSw; (try dsimp only at hSw); first | (go_simp; done) | (go_simp; with_reducible rfl)
        try simp only [Act.put, List.setIfInBounds_toArray, List.set_cons_zero, List.set_cons_succ]
        refine takeL 4 (v := ?_) rfl (by kernel_rfl) (by kernel_rfl) (by kernel_rfl) (fun _ _ _ h => h) (by kernel_rfl) ?_ (by assumption) ?_
        rotate_left
        · intro w hSw; (try dsimp only at hSw); first | (go_simp; done) | (go_simp; with_reducible rfl)
        try simp only [Act.put, List.setIfInBounds_toArray, List.set_cons_zero, List.set_cons_succ]
        refine takeL 5 (v := ?_) rfl (by kernel_rfl) (by kernel_rfl) (by kernel_rfl) (fun _ _ _ h => h) (by kernel_rfl) ?_ (by assumption) ?_
        rotate_left
        · intro w hSw; (try dsimp only at hSw); first | (go_simp; done) | (go_simp; with_reducible rfl)
        try simp only [Act.put, List.setIfInBounds_toArray, List.set_cons_zero, List.set_cons_succ]
        refine takeL 6 (v := ?_) rfl (by kernel_rfl) (by kernel_rfl) (by kernel_rfl) (fun _ _ _ h => h) (by kernel_rfl) ?_ (by assumption) ?_
        rotate_left
        · intro w hSw; (try dsimp only at hSw); first | (go_simp; done) | (go_simp; with_reducible rfl)
        try simp only [Act.put, List.setIfInBounds_toArray, List.set_cons_zero, List.set_cons_succ]
        refine callL 7 rfl (by kernel_rfl) (fun K hK => ?_)
        go_simp
        refine (hdf _ (HA.out.below S1.out.2.1)).mono ?_
        rintro e w2 ⟨rfl, b2⟩
        have S2 : Hid (HSt w w2 w.heap.size h.prev h.root h.time h.diff h.nonce) := S1.out.call b2
        go_wp2_with fail
        refine hK.out _ _ ?_ (fun hHeld => ?_)
        · first | (with_reducible exact S3.out.out) | (with_reducible exact S2.out.out) | (with_reducible exact S1.out.out)
        clear hK K
        try simp only [Act.put, List.setIfInBounds_toArray, List.set_cons_zero, List.set_cons_succ]
        refine takeL 8 (v := ?_) rfl (by kernel_rfl) (by kernel_rfl) (by kernel_rfl) (fun _ _ _ h => h) (by kernel_rfl) ?_ (by assumption) ?_
        rotate_left
        · intro w hSw; (try dsimp only at hSw); first | (go_simp; done) | (go_simp; with_reducible rfl)
        try simp only [Act.put, List.setIfInBounds_toArray, List.set_cons_zero, List.set_cons_succ]
        refine takeL 9 (v := ?_) rfl (by kernel_rfl) (by kernel_rfl) (by kernel_rfl) (fun _ _ _ h => h) (by kernel_rfl) ?_ (by assumption) ?_
        rotate_left
        · intro w hSw; (try dsimp only at hSw); first | (go_simp; done) | (go_simp; with_reducible rfl)
        try simp only [Act.put, List.setIfInBounds_toArray, List.set_cons_zero, List.set_cons_succ]
        refine takeL 10 (v := ?_) rfl (by kernel_rfl) (by kernel_rfl) (by kernel_rfl) (fun _ _ _ h => h) (by kernel_rfl) ?_ (by assumption) ?_
        rotate_left
        · intro w hSw; (try dsimp only at hSw); first | (go_simp; done) | (go_simp; with_reducible rfl)
        try simp only [Act.put, List.setIfInBounds_toArray, List.set_cons_zero, List.set_cons_succ]
        refine takeL 11 (v := ?_) rfl (by kernel_rfl) (by kernel_rfl) (by kernel_rfl) (fun _ _ _ h => h) (by kernel_rfl) ?_ (by assumption) ?_
        rotate_left
        · intro w hSw; (try dsimp only at hSw); first | (go_simp; done) | (go_simp; with_reducible rfl)
        try simp only [Act.put, List.setIfInBounds_toArray, List.set_cons_zero, List.set_cons_succ]
        refine callL 12 rfl (by kernel_rfl) (fun K hK => ?_)
        go_simp
        refine (hmt _).mono ?_
        rintro e w3 ⟨rfl, b3⟩
        have S3 : Hid (HSt w w3 w.heap.size h.prev h.root h.time h.diff h.nonce) := S2.out.call b3
        go_wp2_with fail
        refine hK.out _ _ ?_ (fun hHeld => ?_)
        · first | (with_reducible exact S3.out.out) | (with_reducible exact S2.out.out) | (with_reducible exact S1.out.out)
        clear hK K
        try simp only [Act.put, List.setIfInBounds_toArray, List.set_cons_zero, List.set_cons_succ]
        refine takeL 13 (v := ?_) rfl (by kernel_rfl) (by kernel_rfl) (by kernel_rfl) (fun _ _ _ h => h) (by kernel_rfl) ?_ (by assumption) ?_
        rotate_left
        · intro w hSw; (try dsimp only at hSw); first | (go_simp; done) | (go_simp; with_reducible rfl)
        try simp only [Act.put, List.setIfInBounds_toArray, List.set_cons_zero, List.set_cons_succ]
        refine takeL 14 (v := ?_) rfl (by kernel_rfl) (by kernel_rfl) (by kernel_rfl) (fun _ _ _ h => h) (by kernel_rfl) ?_ (by assumption) ?_
        rotate_left
        · intro w hSw; (try dsimp only at hSw); first | (go_simp; done) | (go_simp; with_reducible rfl)
        try simp only [Act.put, List.setIfInBounds_toArray, List.set_cons_zero, List.set_cons_succ]
        refine wpAnyH_done (by kernel_rfl) ?_ _
        refine NoPanic.normal ?_
        go_wp2_with fail
        go_ret
        exact ⟨by rw [HV.out]; rfl, S3.out.2.1⟩
      | true =>
        have HV : Hid (fitsB l h = (decide (h.prev = prevV l) && laterB l h.time)) := fits_rest hok hme hdi
        have hn := hA.len
        have hm := hA.max
        rw [hok] at hck
        rw [hme] at hmt
        rw [← hdi] at hdf
        by_cases h0 : n = 0
        · have HV2 : Hid (fitsB l h = decide (h.prev = zeros16)) := by
            show _ = _
            have hlt : laterB l h.time = true := decide_eq_true (Or.inl (by omega))
            rw [HV.out, prevV, if_pos (by omega), hlt, Bool.and_true]
          unfold headVal at hmt ⊢
          subst h0
          clear hA hp hr hok hme hdi HV hn
          go_enter Tryz.func81, Tryz.ntmps81
          go_wp2_with fail
          refine wp_region_noPanic ?_
          refine wp_region_held_drew (S := fun w' => w'.cell? ⟨w.heap.size, 0, none⟩ = some (.string h.prev) ∧ w'.cell? ⟨w.heap.size, 1, none⟩ = some (.string h.root) ∧ w'.cell? ⟨w.heap.size, 2, none⟩ = some (.int .i64 h.time) ∧ w'.cell? ⟨w.heap.size, 3, none⟩ = some (.int .i64 h.diff) ∧ w'.cell? ⟨w.heap.size, 4, none⟩ = some (.int .i64 h.nonce)) (by kernel_rfl) (S0.drew.out) (fun hHeld => ?_)
          refine takeL 0 (v := ?_) rfl (by kernel_rfl) (by kernel_rfl) (by kernel_rfl) (fun _ _ _ h => h) (by kernel_rfl) ?_ (by assumption) ?_
          rotate_left
          · intro w hSw; (try dsimp only at hSw); first | (go_simp; done) | (go_simp; with_reducible rfl)
          try simp only [Act.put, List.setIfInBounds_toArray, List.set_cons_zero, List.set_cons_succ]
          refine callL 1 rfl (by kernel_rfl) (fun K hK => ?_)
          go_simp
          refine (hck _).mono ?_
          rintro e w1 ⟨rfl, b1⟩
          have S1 : Hid (HSt w w1 w.heap.size h.prev h.root h.time h.diff h.nonce) := S0.drew.call b1
          go_wp2_with fail
          refine hK.out _ _ ?_ (fun hHeld => ?_)
          · first | (with_reducible exact S3.out.out) | (with_reducible exact S2.out.out) | (with_reducible exact S1.out.out)
          clear hK K
          try simp only [Act.put, List.setIfInBounds_toArray, List.set_cons_zero, List.set_cons_succ]
          refine takeL 2 (v := ?_) rfl (by kernel_rfl) (by kernel_rfl) (by kernel_rfl) (fun _ _ _ h => h) (by kernel_rfl) ?_ (by assumption) ?_
          rotate_left
          · intro w hSw; (try dsimp only at hSw); first | (go_simp; done) | (go_simp; with_reducible rfl)
          try simp only [Act.put, List.setIfInBounds_toArray, List.set_cons_zero, List.set_cons_succ]
          refine takeL 3 (v := ?_) rfl (by kernel_rfl) (by kernel_rfl) (by kernel_rfl) (fun _ _ _ h => h) (by kernel_rfl) ?_ (by assumption) ?_
          rotate_left
          · intro w hSw; (try dsimp only at hSw); first | (go_simp; done) | (go_simp; with_reducible rfl)
          try simp only [Act.put, List.setIfInBounds_toArray, List.set_cons_zero, List.set_cons_succ]
          refine takeL 4 (v := ?_) rfl (by kernel_rfl) (by kernel_rfl) (by kernel_rfl) (fun _ _ _ h => h) (by kernel_rfl) ?_ (by assumption) ?_
          rotate_left
          · intro w hSw; (try dsimp only at hSw); first | (go_simp; done) | (go_simp; with_reducible rfl)
          try simp only [Act.put, List.setIfInBounds_toArray, List.set_cons_zero, List.set_cons_succ]
          refine takeL 5 (v := ?_) rfl (by kernel_rfl) (by kernel_rfl) (by kernel_rfl) (fun _ _ _ h => h) (by kernel_rfl) ?_ (by assumption) ?_
          rotate_left
          · intro w hSw; (try dsimp only at hSw); first | (go_simp; done) | (go_simp; with_reducible rfl)
          try simp only [Act.put, List.setIfInBounds_toArray, List.set_cons_zero, List.set_cons_succ]
          refine takeL 6 (v := ?_) rfl (by kernel_rfl) (by kernel_rfl) (by kernel_rfl) (fun _ _ _ h => h) (by kernel_rfl) ?_ (by assumption) ?_
          rotate_left
          · intro w hSw; (try dsimp only at hSw); first | (go_simp; done) | (go_simp; with_reducible rfl)
          try simp only [Act.put, List.setIfInBounds_toArray, List.set_cons_zero, List.set_cons_succ]
          refine callL 7 rfl (by kernel_rfl) (fun K hK => ?_)
          go_simp
          refine (hdf _ (HA.out.below S1.out.2.1)).mono ?_
          rintro e w2 ⟨rfl, b2⟩
          have S2 : Hid (HSt w w2 w.heap.size h.prev h.root h.time h.diff h.nonce) := S1.out.call b2
          go_wp2_with fail
          refine hK.out _ _ ?_ (fun hHeld => ?_)
          · first | (with_reducible exact S3.out.out) | (with_reducible exact S2.out.out) | (with_reducible exact S1.out.out)
          clear hK K
          try simp only [Act.put, List.setIfInBounds_toArray, List.set_cons_zero, List.set_cons_succ]
          refine takeL 8 (v := ?_) rfl (by kernel_rfl) (by kernel_rfl) (by kernel_rfl) (fun _ _ _ h => h) (by kernel_rfl) ?_ (by assumption) ?_
          rotate_left
          · intro w hSw; (try dsimp only at hSw); first | (go_simp; done) | (go_simp; with_reducible rfl)
          try simp only [Act.put, List.setIfInBounds_toArray, List.set_cons_zero, List.set_cons_succ]
          refine takeL 9 (v := ?_) rfl (by kernel_rfl) (by kernel_rfl) (by kernel_rfl) (fun _ _ _ h => h) (by kernel_rfl) ?_ (by assumption) ?_
          rotate_left
          · intro w hSw; (try dsimp only at hSw); first | (go_simp; done) | (go_simp; with_reducible rfl)
          try simp only [Act.put, List.setIfInBounds_toArray, List.set_cons_zero, List.set_cons_succ]
          refine takeL 10 (v := ?_) rfl (by kernel_rfl) (by kernel_rfl) (by kernel_rfl) (fun _ _ _ h => h) (by kernel_rfl) ?_ (by assumption) ?_
          rotate_left
          · intro w hSw; (try dsimp only at hSw); first | (go_simp; done) | (go_simp; with_reducible rfl)
          try simp only [Act.put, List.setIfInBounds_toArray, List.set_cons_zero, List.set_cons_succ]
          refine takeL 11 (v := ?_) rfl (by kernel_rfl) (by kernel_rfl) (by kernel_rfl) (fun _ _ _ h => h) (by kernel_rfl) ?_ (by assumption) ?_
          rotate_left
          · intro w hSw; (try dsimp only at hSw); first | (go_simp; done) | (go_simp; with_reducible rfl)
          try simp only [Act.put, List.setIfInBounds_toArray, List.set_cons_zero, List.set_cons_succ]
          refine callL 12 rfl (by kernel_rfl) (fun K hK => ?_)
          go_simp
          refine (hmt _).mono ?_
          rintro e w3 ⟨rfl, b3⟩
          have S3 : Hid (HSt w w3 w.heap.size h.prev h.root h.time h.diff h.nonce) := S2.out.call b3
          go_wp2_with fail
          refine hK.out _ _ ?_ (fun hHeld => ?_)
          · first | (with_reducible exact S3.out.out) | (with_reducible exact S2.out.out) | (with_reducible exact S1.out.out)
          clear hK K
          try simp only [Act.put, List.setIfInBounds_toArray, List.set_cons_zero, List.set_cons_succ]
          refine takeL 13 (v := ?_) rfl (by kernel_rfl) (by kernel_rfl) (by kernel_rfl) (fun _ _ _ h => h) (by kernel_rfl) ?_ (by assumption) ?_
          rotate_left
          · intro w hSw; (try dsimp only at hSw); first | (go_simp; done) | (go_simp; with_reducible rfl)
          try simp only [Act.put, List.setIfInBounds_toArray, List.set_cons_zero, List.set_cons_succ]
          refine takeL 14 (v := ?_) rfl (by kernel_rfl) (by kernel_rfl) (by kernel_rfl) (fun _ _ _ h => h) (by kernel_rfl) ?_ (by assumption) ?_
          rotate_left
          · intro w hSw; (try dsimp only at hSw); first | (go_simp; done) | (go_simp; with_reducible rfl)
          try simp only [Act.put, List.setIfInBounds_toArray, List.set_cons_zero, List.set_cons_succ]
          refine wpAnyH_done (by kernel_rfl) ?_ _
          refine NoPanic.normal ?_
          go_wp2_with fail
          go_region_held3 (fun w' => w'.cell? ⟨w.heap.size, 0, none⟩ = some (.string h.prev) ∧ w'.cell? ⟨w.heap.size, 1, none⟩ = some (.string h.root) ∧ w'.cell? ⟨w.heap.size, 2, none⟩ = some (.int .i64 h.time) ∧ w'.cell? ⟨w.heap.size, 3, none⟩ = some (.int .i64 h.diff) ∧ w'.cell? ⟨w.heap.size, 4, none⟩ = some (.int .i64 h.nonce))
            (first | (with_reducible first | exact S3.out.out | exact S3.out.drew.out) | go_keep)
            (first | (go_at_call 119; refine (specL4Zero _).mono ?_; rintro e w4 ⟨rfl, rfl⟩))
          go_wp2_with fail
          go_ret
          refine ⟨?_, S3.out.drew.2.1⟩
          rw [HV2.out, ← sameS]
          rfl
        obtain ⟨j, hj⟩ : ∃ j, n = j + 1 := ⟨n - 1, by omega⟩
        have hjl : j < l.length := by omega
        have c0 := AtHead.c0 hA.at_ j hjl
        have c1 := AtHead.c1 hA.at_ j hjl
        have c2 := AtHead.c2 hA.at_ j hjl
        have c3 := AtHead.c3 hA.at_ j hjl
        have c4 := AtHead.c4 hA.at_ j hjl
        have HL : lastH l = l.getD j default := by rw [lastH, ← hn, hj, Nat.add_sub_cancel]
        have hgl := hA.at_.1
        have hw1 : IntKind.i64.wrap ((n : Int) - 1) = (j : Int) := by rw [IntKind.wrap_i64]; omega
        have lj : (j : Int) < (n : Int) := by omega
        have lj0 : (0 : Int) ≤ (j : Int) := by omega
        have hn0 : ¬ (n : Int) = 0 := by omega
        have hls := specL3Sum (l.getD j default)
        have hls2 := fun w' => hls w' (hA.ok j hjl)
        clear hls
        have HPV : Hid (prevV l = sumH (l.getD j default)) := by show _ = _; rw [prevV, if_neg (by omega), HL]
        have HLV : Hid (laterB l h.time = decide ((l.getD j default).time < h.time)) := by
          show _ = _
          rw [laterB, HL]
          refine decide_eq_decide.2 ⟨?_, Or.inr⟩
          rintro (h1 | h1)
          · omega
          · exact h1
        have hst : (⟨(sumB (headX (l.getD j default))).toArray⟩ : ByteArray) = sumH (l.getD j default) := rfl
        rw [hst] at hls2
        clear hst
        generalize prevV l = PV at HPV HV
        generalize laterB l h.time = LV at HLV HV
        generalize sumH (l.getD j default) = sb at hls2 HPV
        generalize l.getD j default = p at c0 c1 c2 c3 c4 hls2 HLV
        unfold headVal at hmt hls2 ⊢
        have HLC : Hid (∀ w', Below w.heap.size w w' → w'.cell? ⟨g, j * 5, none⟩ = some (.string p.prev) ∧ w'.cell? ⟨g, j * 5 + 1, none⟩ = some (.string p.root) ∧ w'.cell? ⟨g, j * 5 + 2, none⟩ = some (.int .i64 p.time) ∧ w'.cell? ⟨g, j * 5 + 3, none⟩ = some (.int .i64 p.diff) ∧ w'.cell? ⟨g, j * 5 + 4, none⟩ = some (.int .i64 p.nonce)) := fun w' hb => ⟨(hb.cell (p := ⟨g, j * 5, none⟩) hgl).trans c0, (hb.cell (p := ⟨g, j * 5 + 1, none⟩) hgl).trans c1, (hb.cell (p := ⟨g, j * 5 + 2, none⟩) hgl).trans c2, (hb.cell (p := ⟨g, j * 5 + 3, none⟩) hgl).trans c3, (hb.cell (p := ⟨g, j * 5 + 4, none⟩) hgl).trans c4⟩
        clear hA hp hr hok hme hdi hn hj hjl h0 hm HL c0 c1 c2 c3 c4
        by_cases hpv : h.prev = sb
        · have heq : (h.prev.toList == sb.toList) = true := by rw [sameS, decide_eq_true hpv]
          have HV2 : Hid (fitsB l h = decide (p.time < h.time)) := by show _ = _; rw [HV.out, HLV.out, HPV.out, decide_eq_true hpv, Bool.true_and]
          clear HV HLV HPV hpv
          go_enter Tryz.func81, Tryz.ntmps81
          go_wp2_with fail
          refine wp_region_noPanic ?_
          refine wp_region_held_drew (S := fun w' => w'.cell? ⟨w.heap.size, 0, none⟩ = some (.string h.prev) ∧ w'.cell? ⟨w.heap.size, 1, none⟩ = some (.string h.root) ∧ w'.cell? ⟨w.heap.size, 2, none⟩ = some (.int .i64 h.time) ∧ w'.cell? ⟨w.heap.size, 3, none⟩ = some (.int .i64 h.diff) ∧ w'.cell? ⟨w.heap.size, 4, none⟩ = some (.int .i64 h.nonce)) (by kernel_rfl) (S0.drew.out) (fun hHeld => ?_)
          refine takeL 0 (v := ?_) rfl (by kernel_rfl) (by kernel_rfl) (by kernel_rfl) (fun _ _ _ h => h) (by kernel_rfl) ?_ (by assumption) ?_
          rotate_left
          · intro w hSw; (try dsimp only at hSw); first | (go_simp; done) | (go_simp; with_reducible rfl)
          try simp only [Act.put, List.setIfInBounds_toArray, List.set_cons_zero, List.set_cons_succ]
          refine callL 1 rfl (by kernel_rfl) (fun K hK => ?_)
          go_simp
          refine (hck _).mono ?_
          rintro e w1 ⟨rfl, b1⟩
          have S1 : Hid (HSt w w1 w.heap.size h.prev h.root h.time h.diff h.nonce) := S0.drew.call b1
          go_wp2_with fail
          refine hK.out _ _ ?_ (fun hHeld => ?_)
          · first | (with_reducible exact S3.out.out) | (with_reducible exact S2.out.out) | (with_reducible exact S1.out.out)
          clear hK K
          try simp only [Act.put, List.setIfInBounds_toArray, List.set_cons_zero, List.set_cons_succ]
          refine takeL 2 (v := ?_) rfl (by kernel_rfl) (by kernel_rfl) (by kernel_rfl) (fun _ _ _ h => h) (by kernel_rfl) ?_ (by assumption) ?_
          rotate_left
          · intro w hSw; (try dsimp only at hSw); first | (go_simp; done) | (go_simp; with_reducible rfl)
          try simp only [Act.put, List.setIfInBounds_toArray, List.set_cons_zero, List.set_cons_succ]
          refine takeL 3 (v := ?_) rfl (by kernel_rfl) (by kernel_rfl) (by kernel_rfl) (fun _ _ _ h => h) (by kernel_rfl) ?_ (by assumption) ?_
          rotate_left
          · intro w hSw; (try dsimp only at hSw); first | (go_simp; done) | (go_simp; with_reducible rfl)
          try simp only [Act.put, List.setIfInBounds_toArray, List.set_cons_zero, List.set_cons_succ]
          refine takeL 4 (v := ?_) rfl (by kernel_rfl) (by kernel_rfl) (by kernel_rfl) (fun _ _ _ h => h) (by kernel_rfl) ?_ (by assumption) ?_
          rotate_left
          · intro w hSw; (try dsimp only at hSw); first | (go_simp; done) | (go_simp; with_reducible rfl)
          try simp only [Act.put, List.setIfInBounds_toArray, List.set_cons_zero, List.set_cons_succ]
          refine takeL 5 (v := ?_) rfl (by kernel_rfl) (by kernel_rfl) (by kernel_rfl) (fun _ _ _ h => h) (by kernel_rfl) ?_ (by assumption) ?_
          rotate_left
          · intro w hSw; (try dsimp only at hSw); first | (go_simp; done) | (go_simp; with_reducible rfl)
          try simp only [Act.put, List.setIfInBounds_toArray, List.set_cons_zero, List.set_cons_succ]
          refine takeL 6 (v := ?_) rfl (by kernel_rfl) (by kernel_rfl) (by kernel_rfl) (fun _ _ _ h => h) (by kernel_rfl) ?_ (by assumption) ?_
          rotate_left
          · intro w hSw; (try dsimp only at hSw); first | (go_simp; done) | (go_simp; with_reducible rfl)
          try simp only [Act.put, List.setIfInBounds_toArray, List.set_cons_zero, List.set_cons_succ]
          refine callL 7 rfl (by kernel_rfl) (fun K hK => ?_)
          go_simp
          refine (hdf _ (HA.out.below S1.out.2.1)).mono ?_
          rintro e w2 ⟨rfl, b2⟩
          have S2 : Hid (HSt w w2 w.heap.size h.prev h.root h.time h.diff h.nonce) := S1.out.call b2
          go_wp2_with fail
          refine hK.out _ _ ?_ (fun hHeld => ?_)
          · first | (with_reducible exact S3.out.out) | (with_reducible exact S2.out.out) | (with_reducible exact S1.out.out)
          clear hK K
          try simp only [Act.put, List.setIfInBounds_toArray, List.set_cons_zero, List.set_cons_succ]
          refine takeL 8 (v := ?_) rfl (by kernel_rfl) (by kernel_rfl) (by kernel_rfl) (fun _ _ _ h => h) (by kernel_rfl) ?_ (by assumption) ?_
          rotate_left
          · intro w hSw; (try dsimp only at hSw); first | (go_simp; done) | (go_simp; with_reducible rfl)
          try simp only [Act.put, List.setIfInBounds_toArray, List.set_cons_zero, List.set_cons_succ]
          refine takeL 9 (v := ?_) rfl (by kernel_rfl) (by kernel_rfl) (by kernel_rfl) (fun _ _ _ h => h) (by kernel_rfl) ?_ (by assumption) ?_
          rotate_left
          · intro w hSw; (try dsimp only at hSw); first | (go_simp; done) | (go_simp; with_reducible rfl)
          try simp only [Act.put, List.setIfInBounds_toArray, List.set_cons_zero, List.set_cons_succ]
          refine takeL 10 (v := ?_) rfl (by kernel_rfl) (by kernel_rfl) (by kernel_rfl) (fun _ _ _ h => h) (by kernel_rfl) ?_ (by assumption) ?_
          rotate_left
          · intro w hSw; (try dsimp only at hSw); first | (go_simp; done) | (go_simp; with_reducible rfl)
          try simp only [Act.put, List.setIfInBounds_toArray, List.set_cons_zero, List.set_cons_succ]
          refine takeL 11 (v := ?_) rfl (by kernel_rfl) (by kernel_rfl) (by kernel_rfl) (fun _ _ _ h => h) (by kernel_rfl) ?_ (by assumption) ?_
          rotate_left
          · intro w hSw; (try dsimp only at hSw); first | (go_simp; done) | (go_simp; with_reducible rfl)
          try simp only [Act.put, List.setIfInBounds_toArray, List.set_cons_zero, List.set_cons_succ]
          refine callL 12 rfl (by kernel_rfl) (fun K hK => ?_)
          go_simp
          refine (hmt _).mono ?_
          rintro e w3 ⟨rfl, b3⟩
          have S3 : Hid (HSt w w3 w.heap.size h.prev h.root h.time h.diff h.nonce) := S2.out.call b3
          go_wp2_with fail
          refine hK.out _ _ ?_ (fun hHeld => ?_)
          · first | (with_reducible exact S3.out.out) | (with_reducible exact S2.out.out) | (with_reducible exact S1.out.out)
          clear hK K
          try simp only [Act.put, List.setIfInBounds_toArray, List.set_cons_zero, List.set_cons_succ]
          refine takeL 13 (v := ?_) rfl (by kernel_rfl) (by kernel_rfl) (by kernel_rfl) (fun _ _ _ h => h) (by kernel_rfl) ?_ (by assumption) ?_
          rotate_left
          · intro w hSw; (try dsimp only at hSw); first | (go_simp; done) | (go_simp; with_reducible rfl)
          try simp only [Act.put, List.setIfInBounds_toArray, List.set_cons_zero, List.set_cons_succ]
          refine takeL 14 (v := ?_) rfl (by kernel_rfl) (by kernel_rfl) (by kernel_rfl) (fun _ _ _ h => h) (by kernel_rfl) ?_ (by assumption) ?_
          rotate_left
          · intro w hSw; (try dsimp only at hSw); first | (go_simp; done) | (go_simp; with_reducible rfl)
          try simp only [Act.put, List.setIfInBounds_toArray, List.set_cons_zero, List.set_cons_succ]
          refine wpAnyH_done (by kernel_rfl) ?_ _
          refine NoPanic.normal ?_
          go_wp2_with fail
          refine wp_region_noPanic ?_
          refine wp_region_held_drew (S := fun w' => (w'.cell? ⟨w.heap.size, 0, none⟩ = some (.string h.prev) ∧ w'.cell? ⟨w.heap.size, 1, none⟩ = some (.string h.root) ∧ w'.cell? ⟨w.heap.size, 2, none⟩ = some (.int .i64 h.time) ∧ w'.cell? ⟨w.heap.size, 3, none⟩ = some (.int .i64 h.diff) ∧ w'.cell? ⟨w.heap.size, 4, none⟩ = some (.int .i64 h.nonce)) ∧ w'.cell? ⟨g, j * 5, none⟩ = some (.string p.prev) ∧ w'.cell? ⟨g, j * 5 + 1, none⟩ = some (.string p.root) ∧ w'.cell? ⟨g, j * 5 + 2, none⟩ = some (.int .i64 p.time) ∧ w'.cell? ⟨g, j * 5 + 3, none⟩ = some (.int .i64 p.diff) ∧ w'.cell? ⟨g, j * 5 + 4, none⟩ = some (.int .i64 p.nonce)) (by kernel_rfl) (⟨S3.out.drew.out, HLC.out _ S3.out.drew.2.1⟩) (fun hHeld => ?_)
          refine takeL 0 (v := ?_) rfl (by kernel_rfl) (by kernel_rfl) (by kernel_rfl) (fun _ _ _ h => h) (by kernel_rfl) ?_ (by assumption) ?_
          rotate_left
          · intro w hSw; (try dsimp only at hSw); first | (go_simp; done) | (go_simp; with_reducible rfl)
          try simp only [Act.put, List.setIfInBounds_toArray, List.set_cons_zero, List.set_cons_succ]
          refine takeL 1 (v := ?_) rfl (by kernel_rfl) (by kernel_rfl) (by kernel_rfl) (fun _ _ _ h => h) (by kernel_rfl) ?_ (by assumption) ?_
          rotate_left
          · intro w hSw; (try dsimp only at hSw); first | (go_simp; done) | (go_simp; with_reducible rfl)
          try simp only [Act.put, List.setIfInBounds_toArray, List.set_cons_zero, List.set_cons_succ]
          refine takeL 2 (v := ?_) rfl (by kernel_rfl) (by kernel_rfl) (by kernel_rfl) (fun _ _ _ h => h) (by kernel_rfl) ?_ (by assumption) ?_
          rotate_left
          · intro w hSw; (try dsimp only at hSw); first | (go_simp; done) | (go_simp; with_reducible rfl)
          try simp only [Act.put, List.setIfInBounds_toArray, List.set_cons_zero, List.set_cons_succ]
          refine takeL 3 (v := ?_) rfl (by kernel_rfl) (by kernel_rfl) (by kernel_rfl) (fun _ _ _ h => h) (by kernel_rfl) ?_ (by assumption) ?_
          rotate_left
          · intro w hSw; (try dsimp only at hSw); first | (go_simp; done) | (go_simp; with_reducible rfl)
          try simp only [Act.put, List.setIfInBounds_toArray, List.set_cons_zero, List.set_cons_succ]
          refine takeL 4 (v := ?_) rfl (by kernel_rfl) (by kernel_rfl) (by kernel_rfl) (fun _ _ _ h => h) (by kernel_rfl) ?_ (by assumption) ?_
          rotate_left
          · intro w hSw; (try dsimp only at hSw); first | (go_simp; done) | (go_simp; with_reducible rfl)
          try simp only [Act.put, List.setIfInBounds_toArray, List.set_cons_zero, List.set_cons_succ]
          refine takeL 5 (v := ?_) rfl (by kernel_rfl) (by kernel_rfl) (by kernel_rfl) (fun _ _ _ h => h) (by kernel_rfl) ?_ (by assumption) ?_
          rotate_left
          · intro w hSw; (try dsimp only at hSw); first | (go_simp; done) | (go_simp; with_reducible rfl)
          try simp only [Act.put, List.setIfInBounds_toArray, List.set_cons_zero, List.set_cons_succ]
          refine takeL 6 (v := ?_) rfl (by kernel_rfl) (by kernel_rfl) (by kernel_rfl) (fun _ _ _ h => h) (by kernel_rfl) ?_ (by assumption) ?_
          rotate_left
          · intro w hSw; (try dsimp only at hSw); first | (go_simp; done) | (go_simp; with_reducible rfl)
          try simp only [Act.put, List.setIfInBounds_toArray, List.set_cons_zero, List.set_cons_succ]
          refine callL 7 rfl (by kernel_rfl) (fun K hK => ?_)
          go_simp
          refine (hls2 _).mono ?_
          rintro e w4 ⟨rfl, b4⟩
          have S4 : Hid (HSt w w4 w.heap.size h.prev h.root h.time h.diff h.nonce) := S3.out.drew.call b4
          go_wp2_with fail
          refine hK.out _ _ ?_ (fun hHeld => ?_)
          · exact ⟨S4.out.out, HLC.out _ S4.out.2.1⟩
          clear hK K
          try simp only [Act.put, List.setIfInBounds_toArray, List.set_cons_zero, List.set_cons_succ]
          refine takeL 8 (v := ?_) rfl (by kernel_rfl) (by kernel_rfl) (by kernel_rfl) (fun _ _ _ h => h) (by kernel_rfl) ?_ (by assumption) ?_
          rotate_left
          · intro w hSw; (try dsimp only at hSw); first | (go_simp; done) | (go_simp; with_reducible rfl)
          try simp only [Act.put, List.setIfInBounds_toArray, List.set_cons_zero, List.set_cons_succ]
          refine takeL 9 (v := ?_) rfl (by kernel_rfl) (by kernel_rfl) (by kernel_rfl) (fun _ _ _ h => h) (by kernel_rfl) ?_ (by assumption) ?_
          rotate_left
          · intro w hSw; (try dsimp only at hSw); first | (go_simp; done) | (go_simp; with_reducible rfl)
          try simp only [Act.put, List.setIfInBounds_toArray, List.set_cons_zero, List.set_cons_succ]
          refine takeL 10 (v := ?_) rfl (by kernel_rfl) (by kernel_rfl) (by kernel_rfl) (fun _ _ _ h => h) (by kernel_rfl) ?_ (by assumption) ?_
          rotate_left
          · intro w hSw; (try dsimp only at hSw); first | (go_simp; done) | (go_simp; with_reducible rfl)
          try simp only [Act.put, List.setIfInBounds_toArray, List.set_cons_zero, List.set_cons_succ]
          refine takeL 11 (v := ?_) rfl (by kernel_rfl) (by kernel_rfl) (by kernel_rfl) (fun _ _ _ h => h) (by kernel_rfl) ?_ (by assumption) ?_
          rotate_left
          · intro w hSw; (try dsimp only at hSw); first | (go_simp; done) | (go_simp; with_reducible rfl)
          try simp only [Act.put, List.setIfInBounds_toArray, List.set_cons_zero, List.set_cons_succ]
          refine takeL 12 (v := ?_) rfl (by kernel_rfl) (by kernel_rfl) (by kernel_rfl) (fun _ _ _ h => h) (by kernel_rfl) ?_ (by assumption) ?_
          rotate_left
          · intro w hSw; (try dsimp only at hSw); first | (go_simp; done) | (go_simp; with_reducible rfl)
          try simp only [Act.put, List.setIfInBounds_toArray, List.set_cons_zero, List.set_cons_succ]
          refine takeL 13 (v := ?_) rfl (by kernel_rfl) (by kernel_rfl) (by kernel_rfl) (fun _ _ _ h => h) (by kernel_rfl) ?_ (by assumption) ?_
          rotate_left
          · intro w hSw; (try dsimp only at hSw); first | (go_simp; done) | (go_simp; with_reducible rfl)
          try simp only [Act.put, List.setIfInBounds_toArray, List.set_cons_zero, List.set_cons_succ]
          refine takeL 14 (v := ?_) rfl (by kernel_rfl) (by kernel_rfl) (by kernel_rfl) (fun _ _ _ h => h) (by kernel_rfl) ?_ (by assumption) ?_
          rotate_left
          · intro w hSw; (try dsimp only at hSw); first | (go_simp; done) | (go_simp; with_reducible rfl)
          try simp only [Act.put, List.setIfInBounds_toArray, List.set_cons_zero, List.set_cons_succ]
          refine takeL 15 (v := ?_) rfl (by kernel_rfl) (by kernel_rfl) (by kernel_rfl) (fun _ _ _ h => h) (by kernel_rfl) ?_ (by assumption) ?_
          rotate_left
          · intro w hSw; (try dsimp only at hSw); first | (go_simp; done) | (go_simp; with_reducible rfl)
          try simp only [Act.put, List.setIfInBounds_toArray, List.set_cons_zero, List.set_cons_succ]
          refine takeL 16 (v := ?_) rfl (by kernel_rfl) (by kernel_rfl) (by kernel_rfl) (fun _ _ _ h => h) (by kernel_rfl) ?_ (by assumption) ?_
          rotate_left
          · intro w hSw; (try dsimp only at hSw); first | (go_simp; done) | (go_simp; with_reducible rfl)
          try simp only [Act.put, List.setIfInBounds_toArray, List.set_cons_zero, List.set_cons_succ]
          refine takeL 17 (v := ?_) rfl (by kernel_rfl) (by kernel_rfl) (by kernel_rfl) (fun _ _ _ h => h) (by kernel_rfl) ?_ (by assumption) ?_
          rotate_left
          · intro w hSw; (try dsimp only at hSw); first | (go_simp; done) | (go_simp; with_reducible rfl)
          try simp only [Act.put, List.setIfInBounds_toArray, List.set_cons_zero, List.set_cons_succ]
          refine takeL 18 (v := ?_) rfl (by kernel_rfl) (by kernel_rfl) (by kernel_rfl) (fun _ _ _ h => h) (by kernel_rfl) ?_ (by assumption) ?_
          rotate_left
          · intro w hSw; (try dsimp only at hSw); first | (go_simp; done) | (go_simp; with_reducible rfl)
          try simp only [Act.put, List.setIfInBounds_toArray, List.set_cons_zero, List.set_cons_succ]
          refine takeL 19 (v := ?_) rfl (by kernel_rfl) (by kernel_rfl) (by kernel_rfl) (fun _ _ _ h => h) (by kernel_rfl) ?_ (by assumption) ?_
          rotate_left
          · intro w hSw; (try dsimp only at hSw); first | (go_simp; done) | (go_simp; with_reducible rfl)
          try simp only [Act.put, List.setIfInBounds_toArray, List.set_cons_zero, List.set_cons_succ]
          refine takeL 20 (v := ?_) rfl (by kernel_rfl) (by kernel_rfl) (by kernel_rfl) (fun _ _ _ h => h) (by kernel_rfl) ?_ (by assumption) ?_
          rotate_left
          · intro w hSw; (try dsimp only at hSw); first | (go_simp; done) | (go_simp; with_reducible rfl)
          try simp only [Act.put, List.setIfInBounds_toArray, List.set_cons_zero, List.set_cons_succ]
          refine wpAnyH_done (by kernel_rfl) ?_ _
          refine NoPanic.normal ?_
          go_wp2_with fail
          go_ret
          exact ⟨by rw [HV2.out]; rfl, S4.out.2.1⟩
        · have heq : (h.prev.toList == sb.toList) = false := by rw [sameS, decide_eq_false hpv]
          have HV2 : Hid (fitsB l h = false) := by show _ = _; rw [HV.out, HPV.out, decide_eq_false hpv, Bool.false_and]
          clear HV HLV HPV hpv
          go_enter Tryz.func81, Tryz.ntmps81
          go_wp2_with fail
          refine wp_region_noPanic ?_
          refine wp_region_held_drew (S := fun w' => w'.cell? ⟨w.heap.size, 0, none⟩ = some (.string h.prev) ∧ w'.cell? ⟨w.heap.size, 1, none⟩ = some (.string h.root) ∧ w'.cell? ⟨w.heap.size, 2, none⟩ = some (.int .i64 h.time) ∧ w'.cell? ⟨w.heap.size, 3, none⟩ = some (.int .i64 h.diff) ∧ w'.cell? ⟨w.heap.size, 4, none⟩ = some (.int .i64 h.nonce)) (by kernel_rfl) (S0.drew.out) (fun hHeld => ?_)
          refine takeL 0 (v := ?_) rfl (by kernel_rfl) (by kernel_rfl) (by kernel_rfl) (fun _ _ _ h => h) (by kernel_rfl) ?_ (by assumption) ?_
          rotate_left
          · intro w hSw; (try dsimp only at hSw); first | (go_simp; done) | (go_simp; with_reducible rfl)
          try simp only [Act.put, List.setIfInBounds_toArray, List.set_cons_zero, List.set_cons_succ]
          refine callL 1 rfl (by kernel_rfl) (fun K hK => ?_)
          go_simp
          refine (hck _).mono ?_
          rintro e w1 ⟨rfl, b1⟩
          have S1 : Hid (HSt w w1 w.heap.size h.prev h.root h.time h.diff h.nonce) := S0.drew.call b1
          go_wp2_with fail
          refine hK.out _ _ ?_ (fun hHeld => ?_)
          · first | (with_reducible exact S3.out.out) | (with_reducible exact S2.out.out) | (with_reducible exact S1.out.out)
          clear hK K
          try simp only [Act.put, List.setIfInBounds_toArray, List.set_cons_zero, List.set_cons_succ]
          refine takeL 2 (v := ?_) rfl (by kernel_rfl) (by kernel_rfl) (by kernel_rfl) (fun _ _ _ h => h) (by kernel_rfl) ?_ (by assumption) ?_
          rotate_left
          · intro w hSw; (try dsimp only at hSw); first | (go_simp; done) | (go_simp; with_reducible rfl)
          try simp only [Act.put, List.setIfInBounds_toArray, List.set_cons_zero, List.set_cons_succ]
          refine takeL 3 (v := ?_) rfl (by kernel_rfl) (by kernel_rfl) (by kernel_rfl) (fun _ _ _ h => h) (by kernel_rfl) ?_ (by assumption) ?_
          rotate_left
          · intro w hSw; (try dsimp only at hSw); first | (go_simp; done) | (go_simp; with_reducible rfl)
          try simp only [Act.put, List.setIfInBounds_toArray, List.set_cons_zero, List.set_cons_succ]
          refine takeL 4 (v := ?_) rfl (by kernel_rfl) (by kernel_rfl) (by kernel_rfl) (fun _ _ _ h => h) (by kernel_rfl) ?_ (by assumption) ?_
          rotate_left
          · intro w hSw; (try dsimp only at hSw); first | (go_simp; done) | (go_simp; with_reducible rfl)
          try simp only [Act.put, List.setIfInBounds_toArray, List.set_cons_zero, List.set_cons_succ]
          refine takeL 5 (v := ?_) rfl (by kernel_rfl) (by kernel_rfl) (by kernel_rfl) (fun _ _ _ h => h) (by kernel_rfl) ?_ (by assumption) ?_
          rotate_left
          · intro w hSw; (try dsimp only at hSw); first | (go_simp; done) | (go_simp; with_reducible rfl)
          try simp only [Act.put, List.setIfInBounds_toArray, List.set_cons_zero, List.set_cons_succ]
          refine takeL 6 (v := ?_) rfl (by kernel_rfl) (by kernel_rfl) (by kernel_rfl) (fun _ _ _ h => h) (by kernel_rfl) ?_ (by assumption) ?_
          rotate_left
          · intro w hSw; (try dsimp only at hSw); first | (go_simp; done) | (go_simp; with_reducible rfl)
          try simp only [Act.put, List.setIfInBounds_toArray, List.set_cons_zero, List.set_cons_succ]
          refine callL 7 rfl (by kernel_rfl) (fun K hK => ?_)
          go_simp
          refine (hdf _ (HA.out.below S1.out.2.1)).mono ?_
          rintro e w2 ⟨rfl, b2⟩
          have S2 : Hid (HSt w w2 w.heap.size h.prev h.root h.time h.diff h.nonce) := S1.out.call b2
          go_wp2_with fail
          refine hK.out _ _ ?_ (fun hHeld => ?_)
          · first | (with_reducible exact S3.out.out) | (with_reducible exact S2.out.out) | (with_reducible exact S1.out.out)
          clear hK K
          try simp only [Act.put, List.setIfInBounds_toArray, List.set_cons_zero, List.set_cons_succ]
          refine takeL 8 (v := ?_) rfl (by kernel_rfl) (by kernel_rfl) (by kernel_rfl) (fun _ _ _ h => h) (by kernel_rfl) ?_ (by assumption) ?_
          rotate_left
          · intro w hSw; (try dsimp only at hSw); first | (go_simp; done) | (go_simp; with_reducible rfl)
          try simp only [Act.put, List.setIfInBounds_toArray, List.set_cons_zero, List.set_cons_succ]
          refine takeL 9 (v := ?_) rfl (by kernel_rfl) (by kernel_rfl) (by kernel_rfl) (fun _ _ _ h => h) (by kernel_rfl) ?_ (by assumption) ?_
          rotate_left
          · intro w hSw; (try dsimp only at hSw); first | (go_simp; done) | (go_simp; with_reducible rfl)
          try simp only [Act.put, List.setIfInBounds_toArray, List.set_cons_zero, List.set_cons_succ]
          refine takeL 10 (v := ?_) rfl (by kernel_rfl) (by kernel_rfl) (by kernel_rfl) (fun _ _ _ h => h) (by kernel_rfl) ?_ (by assumption) ?_
          rotate_left
          · intro w hSw; (try dsimp only at hSw); first | (go_simp; done) | (go_simp; with_reducible rfl)
          try simp only [Act.put, List.setIfInBounds_toArray, List.set_cons_zero, List.set_cons_succ]
          refine takeL 11 (v := ?_) rfl (by kernel_rfl) (by kernel_rfl) (by kernel_rfl) (fun _ _ _ h => h) (by kernel_rfl) ?_ (by assumption) ?_
          rotate_left
          · intro w hSw; (try dsimp only at hSw); first | (go_simp; done) | (go_simp; with_reducible rfl)
          try simp only [Act.put, List.setIfInBounds_toArray, List.set_cons_zero, List.set_cons_succ]
          refine callL 12 rfl (by kernel_rfl) (fun K hK => ?_)
          go_simp
          refine (hmt _).mono ?_
          rintro e w3 ⟨rfl, b3⟩
          have S3 : Hid (HSt w w3 w.heap.size h.prev h.root h.time h.diff h.nonce) := S2.out.call b3
          go_wp2_with fail
          refine hK.out _ _ ?_ (fun hHeld => ?_)
          · first | (with_reducible exact S3.out.out) | (with_reducible exact S2.out.out) | (with_reducible exact S1.out.out)
          clear hK K
          try simp only [Act.put, List.setIfInBounds_toArray, List.set_cons_zero, List.set_cons_succ]
          refine takeL 13 (v := ?_) rfl (by kernel_rfl) (by kernel_rfl) (by kernel_rfl) (fun _ _ _ h => h) (by kernel_rfl) ?_ (by assumption) ?_
          rotate_left
          · intro w hSw; (try dsimp only at hSw); first | (go_simp; done) | (go_simp; with_reducible rfl)
          try simp only [Act.put, List.setIfInBounds_toArray, List.set_cons_zero, List.set_cons_succ]
          refine takeL 14 (v := ?_) rfl (by kernel_rfl) (by kernel_rfl) (by kernel_rfl) (fun _ _ _ h => h) (by kernel_rfl) ?_ (by assumption) ?_
          rotate_left
          · intro w hSw; (try dsimp only at hSw); first | (go_simp; done) | (go_simp; with_reducible rfl)
          try simp only [Act.put, List.setIfInBounds_toArray, List.set_cons_zero, List.set_cons_succ]
          refine wpAnyH_done (by kernel_rfl) ?_ _
          refine NoPanic.normal ?_
          go_wp2_with fail
          refine wp_region_noPanic ?_
          refine wp_region_held_drew (S := fun w' => (w'.cell? ⟨w.heap.size, 0, none⟩ = some (.string h.prev) ∧ w'.cell? ⟨w.heap.size, 1, none⟩ = some (.string h.root) ∧ w'.cell? ⟨w.heap.size, 2, none⟩ = some (.int .i64 h.time) ∧ w'.cell? ⟨w.heap.size, 3, none⟩ = some (.int .i64 h.diff) ∧ w'.cell? ⟨w.heap.size, 4, none⟩ = some (.int .i64 h.nonce)) ∧ w'.cell? ⟨g, j * 5, none⟩ = some (.string p.prev) ∧ w'.cell? ⟨g, j * 5 + 1, none⟩ = some (.string p.root) ∧ w'.cell? ⟨g, j * 5 + 2, none⟩ = some (.int .i64 p.time) ∧ w'.cell? ⟨g, j * 5 + 3, none⟩ = some (.int .i64 p.diff) ∧ w'.cell? ⟨g, j * 5 + 4, none⟩ = some (.int .i64 p.nonce)) (by kernel_rfl) (⟨S3.out.drew.out, HLC.out _ S3.out.drew.2.1⟩) (fun hHeld => ?_)
          refine takeL 0 (v := ?_) rfl (by kernel_rfl) (by kernel_rfl) (by kernel_rfl) (fun _ _ _ h => h) (by kernel_rfl) ?_ (by assumption) ?_
          rotate_left
          · intro w hSw; (try dsimp only at hSw); first | (go_simp; done) | (go_simp; with_reducible rfl)
          try simp only [Act.put, List.setIfInBounds_toArray, List.set_cons_zero, List.set_cons_succ]
          refine takeL 1 (v := ?_) rfl (by kernel_rfl) (by kernel_rfl) (by kernel_rfl) (fun _ _ _ h => h) (by kernel_rfl) ?_ (by assumption) ?_
          rotate_left
          · intro w hSw; (try dsimp only at hSw); first | (go_simp; done) | (go_simp; with_reducible rfl)
          try simp only [Act.put, List.setIfInBounds_toArray, List.set_cons_zero, List.set_cons_succ]
          refine takeL 2 (v := ?_) rfl (by kernel_rfl) (by kernel_rfl) (by kernel_rfl) (fun _ _ _ h => h) (by kernel_rfl) ?_ (by assumption) ?_
          rotate_left
          · intro w hSw; (try dsimp only at hSw); first | (go_simp; done) | (go_simp; with_reducible rfl)
          try simp only [Act.put, List.setIfInBounds_toArray, List.set_cons_zero, List.set_cons_succ]
          refine takeL 3 (v := ?_) rfl (by kernel_rfl) (by kernel_rfl) (by kernel_rfl) (fun _ _ _ h => h) (by kernel_rfl) ?_ (by assumption) ?_
          rotate_left
          · intro w hSw; (try dsimp only at hSw); first | (go_simp; done) | (go_simp; with_reducible rfl)
          try simp only [Act.put, List.setIfInBounds_toArray, List.set_cons_zero, List.set_cons_succ]
          refine takeL 4 (v := ?_) rfl (by kernel_rfl) (by kernel_rfl) (by kernel_rfl) (fun _ _ _ h => h) (by kernel_rfl) ?_ (by assumption) ?_
          rotate_left
          · intro w hSw; (try dsimp only at hSw); first | (go_simp; done) | (go_simp; with_reducible rfl)
          try simp only [Act.put, List.setIfInBounds_toArray, List.set_cons_zero, List.set_cons_succ]
          refine takeL 5 (v := ?_) rfl (by kernel_rfl) (by kernel_rfl) (by kernel_rfl) (fun _ _ _ h => h) (by kernel_rfl) ?_ (by assumption) ?_
          rotate_left
          · intro w hSw; (try dsimp only at hSw); first | (go_simp; done) | (go_simp; with_reducible rfl)
          try simp only [Act.put, List.setIfInBounds_toArray, List.set_cons_zero, List.set_cons_succ]
          refine takeL 6 (v := ?_) rfl (by kernel_rfl) (by kernel_rfl) (by kernel_rfl) (fun _ _ _ h => h) (by kernel_rfl) ?_ (by assumption) ?_
          rotate_left
          · intro w hSw; (try dsimp only at hSw); first | (go_simp; done) | (go_simp; with_reducible rfl)
          try simp only [Act.put, List.setIfInBounds_toArray, List.set_cons_zero, List.set_cons_succ]
          refine callL 7 rfl (by kernel_rfl) (fun K hK => ?_)
          go_simp
          refine (hls2 _).mono ?_
          rintro e w4 ⟨rfl, b4⟩
          have S4 : Hid (HSt w w4 w.heap.size h.prev h.root h.time h.diff h.nonce) := S3.out.drew.call b4
          go_wp2_with fail
          refine hK.out _ _ ?_ (fun hHeld => ?_)
          · exact ⟨S4.out.out, HLC.out _ S4.out.2.1⟩
          clear hK K
          try simp only [Act.put, List.setIfInBounds_toArray, List.set_cons_zero, List.set_cons_succ]
          refine takeL 8 (v := ?_) rfl (by kernel_rfl) (by kernel_rfl) (by kernel_rfl) (fun _ _ _ h => h) (by kernel_rfl) ?_ (by assumption) ?_
          rotate_left
          · intro w hSw; (try dsimp only at hSw); first | (go_simp; done) | (go_simp; with_reducible rfl)
          try simp only [Act.put, List.setIfInBounds_toArray, List.set_cons_zero, List.set_cons_succ]
          refine takeL 9 (v := ?_) rfl (by kernel_rfl) (by kernel_rfl) (by kernel_rfl) (fun _ _ _ h => h) (by kernel_rfl) ?_ (by assumption) ?_
          rotate_left
          · intro w hSw; (try dsimp only at hSw); first | (go_simp; done) | (go_simp; with_reducible rfl)
          try simp only [Act.put, List.setIfInBounds_toArray, List.set_cons_zero, List.set_cons_succ]
          refine skipL 10 rfl (by kernel_rfl) (by kernel_rfl) (by kernel_rfl) (fun _ _ _ h => h) (by kernel_rfl) (by assumption) ?_
          try simp only [Act.put, List.setIfInBounds_toArray, List.set_cons_zero, List.set_cons_succ]
          refine skipL 11 rfl (by kernel_rfl) (by kernel_rfl) (by kernel_rfl) (fun _ _ _ h => h) (by kernel_rfl) (by assumption) ?_
          try simp only [Act.put, List.setIfInBounds_toArray, List.set_cons_zero, List.set_cons_succ]
          refine skipL 12 rfl (by kernel_rfl) (by kernel_rfl) (by kernel_rfl) (fun _ _ _ h => h) (by kernel_rfl) (by assumption) ?_
          try simp only [Act.put, List.setIfInBounds_toArray, List.set_cons_zero, List.set_cons_succ]
          refine skipL 13 rfl (by kernel_rfl) (by kernel_rfl) (by kernel_rfl) (fun _ _ _ h => h) (by kernel_rfl) (by assumption) ?_
          try simp only [Act.put, List.setIfInBounds_toArray, List.set_cons_zero, List.set_cons_succ]
          refine skipL 14 rfl (by kernel_rfl) (by kernel_rfl) (by kernel_rfl) (fun _ _ _ h => h) (by kernel_rfl) (by assumption) ?_
          try simp only [Act.put, List.setIfInBounds_toArray, List.set_cons_zero, List.set_cons_succ]
          refine skipL 15 rfl (by kernel_rfl) (by kernel_rfl) (by kernel_rfl) (fun _ _ _ h => h) (by kernel_rfl) (by assumption) ?_
          try simp only [Act.put, List.setIfInBounds_toArray, List.set_cons_zero, List.set_cons_succ]
          refine skipL 16 rfl (by kernel_rfl) (by kernel_rfl) (by kernel_rfl) (fun _ _ _ h => h) (by kernel_rfl) (by assumption) ?_
          try simp only [Act.put, List.setIfInBounds_toArray, List.set_cons_zero, List.set_cons_succ]
          refine skipL 17 rfl (by kernel_rfl) (by kernel_rfl) (by kernel_rfl) (fun _ _ _ h => h) (by kernel_rfl) (by assumption) ?_
          try simp only [Act.put, List.setIfInBounds_toArray, List.set_cons_zero, List.set_cons_succ]
          refine skipL 18 rfl (by kernel_rfl) (by kernel_rfl) (by kernel_rfl) (fun _ _ _ h => h) (by kernel_rfl) (by assumption) ?_
          try simp only [Act.put, List.setIfInBounds_toArray, List.set_cons_zero, List.set_cons_succ]
          refine takeL 19 (v := ?_) rfl (by kernel_rfl) (by kernel_rfl) (by kernel_rfl) (fun _ _ _ h => h) (by kernel_rfl) ?_ (by assumption) ?_
          rotate_left
          · intro w hSw; (try dsimp only at hSw); first | (go_simp; done) | (go_simp; with_reducible rfl)
          try simp only [Act.put, List.setIfInBounds_toArray, List.set_cons_zero, List.set_cons_succ]
          refine takeL 20 (v := ?_) rfl (by kernel_rfl) (by kernel_rfl) (by kernel_rfl) (fun _ _ _ h => h) (by kernel_rfl) ?_ (by assumption) ?_
          rotate_left
          · intro w hSw; (try dsimp only at hSw); first | (go_simp; done) | (go_simp; with_reducible rfl)
          try simp only [Act.put, List.setIfInBounds_toArray, List.set_cons_zero, List.set_cons_succ]
          refine wpAnyH_done (by kernel_rfl) ?_ _
          refine NoPanic.normal ?_
          go_wp2_with fail
          go_ret
          exact ⟨by rw [HV2.out]; rfl, S4.out.2.1⟩
    · have HV : Hid (fitsB l h = false) := fits_no3 hdi
      rw [hok] at hck
      generalize hardV l = H at hdf hdi
      have hne1 : (h.diff == H) = false := by simpa using hdi
      have hne2 : (h.diff != H) = true := by simpa using hdi
      unfold headVal at hmt ⊢
      clear hA hp hr hok
      go_enter Tryz.func81, Tryz.ntmps81
      go_wp2_with fail
      refine wp_region_noPanic ?_
      refine wp_region_held_drew (S := fun w' => w'.cell? ⟨w.heap.size, 0, none⟩ = some (.string h.prev) ∧ w'.cell? ⟨w.heap.size, 1, none⟩ = some (.string h.root) ∧ w'.cell? ⟨w.heap.size, 2, none⟩ = some (.int .i64 h.time) ∧ w'.cell? ⟨w.heap.size, 3, none⟩ = some (.int .i64 h.diff) ∧ w'.cell? ⟨w.heap.size, 4, none⟩ = some (.int .i64 h.nonce)) (by kernel_rfl) (S0.drew.out) (fun hHeld => ?_)
      refine takeL 0 (v := ?_) rfl (by kernel_rfl) (by kernel_rfl) (by kernel_rfl) (fun _ _ _ h => h) (by kernel_rfl) ?_ (by assumption) ?_
      rotate_left
      · intro w hSw; (try dsimp only at hSw); first | (go_simp; done) | (go_simp; with_reducible rfl)
      try simp only [Act.put, List.setIfInBounds_toArray, List.set_cons_zero, List.set_cons_succ]
      refine callL 1 rfl (by kernel_rfl) (fun K hK => ?_)
      go_simp
      refine (hck _).mono ?_
      rintro e w1 ⟨rfl, b1⟩
      have S1 : Hid (HSt w w1 w.heap.size h.prev h.root h.time h.diff h.nonce) := S0.drew.call b1
      go_wp2_with fail
      refine hK.out _ _ ?_ (fun hHeld => ?_)
      · first | (with_reducible exact S3.out.out) | (with_reducible exact S2.out.out) | (with_reducible exact S1.out.out)
      clear hK K
      try simp only [Act.put, List.setIfInBounds_toArray, List.set_cons_zero, List.set_cons_succ]
      refine takeL 2 (v := ?_) rfl (by kernel_rfl) (by kernel_rfl) (by kernel_rfl) (fun _ _ _ h => h) (by kernel_rfl) ?_ (by assumption) ?_
      rotate_left
      · intro w hSw; (try dsimp only at hSw); first | (go_simp; done) | (go_simp; with_reducible rfl)
      try simp only [Act.put, List.setIfInBounds_toArray, List.set_cons_zero, List.set_cons_succ]
      refine takeL 3 (v := ?_) rfl (by kernel_rfl) (by kernel_rfl) (by kernel_rfl) (fun _ _ _ h => h) (by kernel_rfl) ?_ (by assumption) ?_
      rotate_left
      · intro w hSw; (try dsimp only at hSw); first | (go_simp; done) | (go_simp; with_reducible rfl)
      try simp only [Act.put, List.setIfInBounds_toArray, List.set_cons_zero, List.set_cons_succ]
      refine takeL 4 (v := ?_) rfl (by kernel_rfl) (by kernel_rfl) (by kernel_rfl) (fun _ _ _ h => h) (by kernel_rfl) ?_ (by assumption) ?_
      rotate_left
      · intro w hSw; (try dsimp only at hSw); first | (go_simp; done) | (go_simp; with_reducible rfl)
      try simp only [Act.put, List.setIfInBounds_toArray, List.set_cons_zero, List.set_cons_succ]
      refine takeL 5 (v := ?_) rfl (by kernel_rfl) (by kernel_rfl) (by kernel_rfl) (fun _ _ _ h => h) (by kernel_rfl) ?_ (by assumption) ?_
      rotate_left
      · intro w hSw; (try dsimp only at hSw); first | (go_simp; done) | (go_simp; with_reducible rfl)
      try simp only [Act.put, List.setIfInBounds_toArray, List.set_cons_zero, List.set_cons_succ]
      refine takeL 6 (v := ?_) rfl (by kernel_rfl) (by kernel_rfl) (by kernel_rfl) (fun _ _ _ h => h) (by kernel_rfl) ?_ (by assumption) ?_
      rotate_left
      · intro w hSw; (try dsimp only at hSw); first | (go_simp; done) | (go_simp; with_reducible rfl)
      try simp only [Act.put, List.setIfInBounds_toArray, List.set_cons_zero, List.set_cons_succ]
      refine callL 7 rfl (by kernel_rfl) (fun K hK => ?_)
      go_simp
      refine (hdf _ (HA.out.below S1.out.2.1)).mono ?_
      rintro e w2 ⟨rfl, b2⟩
      have S2 : Hid (HSt w w2 w.heap.size h.prev h.root h.time h.diff h.nonce) := S1.out.call b2
      go_wp2_with fail
      refine hK.out _ _ ?_ (fun hHeld => ?_)
      · first | (with_reducible exact S3.out.out) | (with_reducible exact S2.out.out) | (with_reducible exact S1.out.out)
      clear hK K
      try simp only [Act.put, List.setIfInBounds_toArray, List.set_cons_zero, List.set_cons_succ]
      refine takeL 8 (v := ?_) rfl (by kernel_rfl) (by kernel_rfl) (by kernel_rfl) (fun _ _ _ h => h) (by kernel_rfl) ?_ (by assumption) ?_
      rotate_left
      · intro w hSw; (try dsimp only at hSw); first | (go_simp; done) | (go_simp; with_reducible rfl)
      try simp only [Act.put, List.setIfInBounds_toArray, List.set_cons_zero, List.set_cons_succ]
      refine takeL 9 (v := ?_) rfl (by kernel_rfl) (by kernel_rfl) (by kernel_rfl) (fun _ _ _ h => h) (by kernel_rfl) ?_ (by assumption) ?_
      rotate_left
      · intro w hSw; (try dsimp only at hSw); first | (go_simp; done) | (go_simp; with_reducible rfl)
      try simp only [Act.put, List.setIfInBounds_toArray, List.set_cons_zero, List.set_cons_succ]
      refine takeL 10 (v := ?_) rfl (by kernel_rfl) (by kernel_rfl) (by kernel_rfl) (fun _ _ _ h => h) (by kernel_rfl) ?_ (by assumption) ?_
      rotate_left
      · intro w hSw; (try dsimp only at hSw); first | (go_simp; done) | (go_simp; with_reducible rfl)
      try simp only [Act.put, List.setIfInBounds_toArray, List.set_cons_zero, List.set_cons_succ]
      refine skipL 11 rfl (by kernel_rfl) (by kernel_rfl) (by kernel_rfl) (fun _ _ _ h => h) (by kernel_rfl) (by assumption) ?_
      try simp only [Act.put, List.setIfInBounds_toArray, List.set_cons_zero, List.set_cons_succ]
      refine skipL 12 rfl (by kernel_rfl) (by kernel_rfl) (by kernel_rfl) (fun _ _ _ h => h) (by kernel_rfl) (by assumption) ?_
      try simp only [Act.put, List.setIfInBounds_toArray, List.set_cons_zero, List.set_cons_succ]
      refine skipL 13 rfl (by kernel_rfl) (by kernel_rfl) (by kernel_rfl) (fun _ _ _ h => h) (by kernel_rfl) (by assumption) ?_
      try simp only [Act.put, List.setIfInBounds_toArray, List.set_cons_zero, List.set_cons_succ]
      refine takeL 14 (v := ?_) rfl (by kernel_rfl) (by kernel_rfl) (by kernel_rfl) (fun _ _ _ h => h) (by kernel_rfl) ?_ (by assumption) ?_
      rotate_left
      · intro w hSw; (try dsimp only at hSw); first | (go_simp; done) | (go_simp; with_reducible rfl)
      try simp only [Act.put, List.setIfInBounds_toArray, List.set_cons_zero, List.set_cons_succ]
      refine wpAnyH_done (by kernel_rfl) ?_ _
      refine NoPanic.normal ?_
      go_wp2_with fail
      go_ret
      exact ⟨by rw [HV.out]; rfl, S2.out.2.1⟩

end Go.Proofs.YtkajpkfhedfmaaaGreatDoor

set_option linter.unusedVariables false
namespace Go.Proofs.YtkajpkfhedfmaaaGreatDoor
open Go.RowKit

theorem find_first {p : Nat → Bool} : ∀ (n k : Nat), k < n → p k = true → (∀ j, j < k → p j = false) → (List.range n).find? p = some k
  | 0, k, hk, _, _ => by omega
  | n + 1, k, hk, hp, hj => by
    rw [List.range_succ, List.find?_append]
    by_cases h : k < n
    · rw [find_first n k h hp hj]
      rfl
    · obtain rfl : k = n := by omega
      have : (List.range k).find? p = none := List.find?_eq_none.2 fun j hj' => by rw [hj j (List.mem_range.1 hj')]; decide
      rw [this]
      simp [hp]
theorem find_none {p : Nat → Bool} {n : Nat} (h : ∀ j, j < n → p j = false) : (List.range n).find? p = none := List.find?_eq_none.2 fun j hj' => by rw [h j (List.mem_range.1 hj')]; decide
/-- A head with another number. -/
def headNo (h : HeadV) (k : Nat) : HeadV := { h with nonce := (k : Int) }
def zeroH : HeadV := ⟨⟨#[]⟩, ⟨#[]⟩, 0, 0, 0⟩
def headMine (h : HeadV) : HeadV × Bool := match (List.range 401).find? fun k => headMeets (headNo h k) with
  | some k => (headNo h k, true)
  | none => (zeroH, false)
theorem headMine_yes {h : HeadV} {k : Nat} (hk : k ≤ 400) (hm : headMeets (headNo h k) = true) (hj : ∀ j, j < k → headMeets (headNo h j) = false) : headMine h = (headNo h k, true) := by
  unfold headMine
  rw [find_first 401 k (by omega) hm hj]
theorem headMine_no {h : HeadV} (hj : ∀ j, j < 401 → headMeets (headNo h j) = false) : headMine h = (zeroH, false) := by
  unfold headMine
  rw [find_none hj]

set_option maxHeartbeats 1000000 in
set_option maxRecDepth 100000 in
theorem implClone (s : ByteArray) (w : World) (hs : s.size ≤ 281474976710656) :
    Calls Tryz.prog 43 #[.string s] w fun e w' => e = .returned (.string s) ∧ Below w.heap.size w w' := by
  go_enter Tryz.func43, Tryz.ntmps43
  go_wp2_with fail
  refine (Tryz.stringslite_Clone s w hs).mono ?_
  rintro e w1 ⟨rfl, b1⟩
  go_wp2_with fail
  go_ret
  exact ⟨rfl, b1⟩

theorem results_row_tmp {P : Program} {fn : Func} {p u : Tmp} {ty : TypeId} (h : fn.results = #[.cell p ty, .tmp u]) (tmps : Array Value) (w : World) (g : Nat) (t : TypeId) (cs : Array Value) (fr : Nat × Nat) (d : TypeDesc)
    (hp : tmps.getD p undef = .pointer (some ⟨g, 0, none⟩)) (hg : w.heap[g]? = some (.cells cs t fr))
    (hu : P.underlying ty = some d) (hd : (match d with | .struct _ | .array _ _ => true | _ => false) = true) (hi : (P.info? ty).map (·.size) = some cs.size) :
    (results fn tmps).run P w = .ok (.tuple #[.agg cs, tmps.getD u undef]) w := by
  rw [results_cell_tmp h, hp]
  simp [asAddr, run_loadVar_row w g t ty cs fr d hg hu hd hi, Result.andThen]
/-- A head's block. -/
def HBk (w : World) (g : Nat) (p r : ByteArray) (t d n : Int) : Prop := w.heap[g]? = some (.cells #[.string p, .string r, .int .i64 t, .int .i64 d, .int .i64 n] 36 (0, 0))
theorem HBk.lt {w : World} {g : Nat} {p r : ByteArray} {t d n : Int} (h : HBk w g p r t d n) : g < w.heap.size := by
  rcases Nat.lt_or_ge g w.heap.size with h' | h'
  · exact h'
  · simp [HBk, Array.getElem?_eq_none h'] at h
theorem HBk.below {w w' : World} {g B : Nat} {p r : ByteArray} {t d n : Int} (h : HBk w g p r t d n) (hb : Below B w w') (hg : g < B) : HBk w' g p r t d n := by
  unfold HBk at h ⊢
  rw [hb.block g hg]
  exact h
theorem HBk.facts {w : World} {g : Nat} {p r : ByteArray} {t d n : Int} (h : HBk w g p r t d n) : w.cell? ⟨g, 0, none⟩ = some (.string p) ∧ w.cell? ⟨g, 1, none⟩ = some (.string r) ∧ w.cell? ⟨g, 2, none⟩ = some (.int .i64 t) ∧ w.cell? ⟨g, 3, none⟩ = some (.int .i64 d) ∧ w.cell? ⟨g, 4, none⟩ = some (.int .i64 n) ∧ w.frozen? ⟨g, 0, none⟩ = false ∧ w.frozen? ⟨g, 1, none⟩ = false ∧ w.frozen? ⟨g, 2, none⟩ = false ∧ w.frozen? ⟨g, 3, none⟩ = false ∧ w.frozen? ⟨g, 4, none⟩ = false := by
  refine ⟨?_, ?_, ?_, ?_, ?_, Lib.frozen_of_heap h 0, Lib.frozen_of_heap h 1, Lib.frozen_of_heap h 2, Lib.frozen_of_heap h 3, Lib.frozen_of_heap h 4⟩ <;> (rw [Lib.cell_of_heap h]; rfl)
theorem HBk.set0 {w : World} {g : Nat} {p r : ByteArray} {t d n : Int} (h : HBk w g p r t d n) (q : ByteArray) : HBk (w.setCell ⟨g, 0, none⟩ (.string q)) g q r t d n := by
  unfold HBk at h ⊢; simp [World.setCell, Array.getElem?_modify, h]
theorem HBk.set1 {w : World} {g : Nat} {p r : ByteArray} {t d n : Int} (h : HBk w g p r t d n) (q : ByteArray) : HBk (w.setCell ⟨g, 1, none⟩ (.string q)) g p q t d n := by
  unfold HBk at h ⊢; simp [World.setCell, Array.getElem?_modify, h]
theorem HBk.set2 {w : World} {g : Nat} {p r : ByteArray} {t d n : Int} (h : HBk w g p r t d n) (q : Int) : HBk (w.setCell ⟨g, 2, none⟩ (.int .i64 q)) g p r q d n := by
  unfold HBk at h ⊢; simp [World.setCell, Array.getElem?_modify, h]
theorem HBk.set3 {w : World} {g : Nat} {p r : ByteArray} {t d n : Int} (h : HBk w g p r t d n) (q : Int) : HBk (w.setCell ⟨g, 3, none⟩ (.int .i64 q)) g p r t q n := by
  unfold HBk at h ⊢; simp [World.setCell, Array.getElem?_modify, h]
theorem HBk.set4 {w : World} {g : Nat} {p r : ByteArray} {t d n : Int} (h : HBk w g p r t d n) (q : Int) : HBk (w.setCell ⟨g, 4, none⟩ (.int .i64 q)) g p r t d q := by
  unfold HBk at h ⊢; simp [World.setCell, Array.getElem?_modify, h]
theorem HBk.other {w : World} {g g' j : Nat} {p r : ByteArray} {t d n : Int} (h : HBk w g p r t d n) (hg : g' ≠ g) (v : Value) : HBk (w.setCell ⟨g', j, none⟩ v) g p r t d n := by
  unfold HBk at h ⊢; simp [World.setCell, Array.getElem?_modify, h, hg]
theorem HBk.new (w : World) (p r : ByteArray) (t d n : Int) : HBk (w.alloc (.cells #[.string p, .string r, .int .i64 t, .int .i64 d, .int .i64 n] 36)) w.heap.size p r t d n := heap_alloc_new w _
/-- A head handed in at block g, the head handed back at block g + 1, g being the first block behind w. -/
def HTwo (w w' : World) (p r : ByteArray) (t d n : Int) (p2 r2 : ByteArray) (t2 d2 n2 : Int) : Prop := HBk w' w.heap.size p r t d n ∧ HBk w' (w.heap.size + 1) p2 r2 t2 d2 n2 ∧ Below w.heap.size w w'
theorem HTwo.new (w : World) (p r : ByteArray) (t d n : Int) (p2 r2 : ByteArray) (t2 d2 n2 : Int) : HTwo w ((w.alloc (.cells #[.string p, .string r, .int .i64 t, .int .i64 d, .int .i64 n] 36)).alloc (.cells #[.string p2, .string r2, .int .i64 t2, .int .i64 d2, .int .i64 n2] 36)) p r t d n p2 r2 t2 d2 n2 := by
  refine ⟨?_, ?_, ((Below.refl _ w).alloc (Nat.le_refl _) _).alloc (by simp) _⟩
  · exact (HBk.new w p r t d n).below ((Below.refl _ _).alloc (Nat.le_refl _) _) (by simp)
  · have := HBk.new (w.alloc (.cells #[.string p, .string r, .int .i64 t, .int .i64 d, .int .i64 n] 36)) p2 r2 t2 d2 n2
    rwa [show (w.alloc (.cells #[.string p, .string r, .int .i64 t, .int .i64 d, .int .i64 n] 36)).heap.size = w.heap.size + 1 from by simp] at this
theorem HTwo.call {w w' w'' : World} {p r : ByteArray} {t d n : Int} {p2 r2 : ByteArray} {t2 d2 n2 : Int} (h : HTwo w w' p r t d n p2 r2 t2 d2 n2) (hb : Below w'.heap.size w' w'') : HTwo w w'' p r t d n p2 r2 t2 d2 n2 :=
  ⟨h.1.below hb h.1.lt, h.2.1.below hb h.2.1.lt, h.2.2.trans (hb.mono h.2.2.size)⟩
theorem HTwo.set0 {w w' : World} {p r : ByteArray} {t d n : Int} {p2 r2 : ByteArray} {t2 d2 n2 : Int} (h : HTwo w w' p r t d n p2 r2 t2 d2 n2) (q : ByteArray) : HTwo w (w'.setCell ⟨w.heap.size, 0, none⟩ (.string q)) q r t d n p2 r2 t2 d2 n2 :=
  ⟨h.1.set0 q, h.2.1.other (by omega) _, h.2.2.setCell (p := ⟨w.heap.size, 0, none⟩) (Nat.le_refl _) _⟩
theorem HTwo.set1 {w w' : World} {p r : ByteArray} {t d n : Int} {p2 r2 : ByteArray} {t2 d2 n2 : Int} (h : HTwo w w' p r t d n p2 r2 t2 d2 n2) (q : ByteArray) : HTwo w (w'.setCell ⟨w.heap.size, 1, none⟩ (.string q)) p q t d n p2 r2 t2 d2 n2 :=
  ⟨h.1.set1 q, h.2.1.other (by omega) _, h.2.2.setCell (p := ⟨w.heap.size, 1, none⟩) (Nat.le_refl _) _⟩
theorem HTwo.set4 {w w' : World} {p r : ByteArray} {t d n : Int} {p2 r2 : ByteArray} {t2 d2 n2 : Int} (h : HTwo w w' p r t d n p2 r2 t2 d2 n2) (q : Int) : HTwo w (w'.setCell ⟨w.heap.size, 4, none⟩ (.int .i64 q)) p r t d q p2 r2 t2 d2 n2 :=
  ⟨h.1.set4 q, h.2.1.other (by omega) _, h.2.2.setCell (p := ⟨w.heap.size, 4, none⟩) (Nat.le_refl _) _⟩
theorem HTwo.back {w w' : World} {p r : ByteArray} {t d n : Int} {p2 r2 : ByteArray} {t2 d2 n2 : Int} (h : HTwo w w' p r t d n p2 r2 t2 d2 n2) (p3 r3 : ByteArray) (t3 d3 n3 : Int) : HTwo w (((((w'.setCell ⟨w.heap.size + 1, 0, none⟩ (.string p3)).setCell ⟨w.heap.size + 1, 1, none⟩ (.string r3)).setCell ⟨w.heap.size + 1, 2, none⟩ (.int .i64 t3)).setCell ⟨w.heap.size + 1, 3, none⟩ (.int .i64 d3)).setCell ⟨w.heap.size + 1, 4, none⟩ (.int .i64 n3)) p r t d n p3 r3 t3 d3 n3 :=
  ⟨((((h.1.other (by omega) _).other (by omega) _).other (by omega) _).other (by omega) _).other (by omega) _, ((((h.2.1.set0 p3).set1 r3).set2 t3).set3 d3).set4 n3,
    ((((h.2.2.setCell (p := ⟨w.heap.size + 1, 0, none⟩) (Nat.le_succ _) _).setCell (p := ⟨w.heap.size + 1, 1, none⟩) (Nat.le_succ _) _).setCell (p := ⟨w.heap.size + 1, 2, none⟩) (Nat.le_succ _) _).setCell (p := ⟨w.heap.size + 1, 3, none⟩) (Nat.le_succ _) _).setCell (p := ⟨w.heap.size + 1, 4, none⟩) (Nat.le_succ _) _⟩

set_option maxHeartbeats 1000000 in
set_option maxRecDepth 100000 in
theorem implHeadCopy (h : HeadV) (w : World) (hp : h.prev.size ≤ 281474976710656) (hr : h.root.size ≤ 281474976710656) :
    Calls Tryz.prog 34 #[headVal h] w fun e w' => e = .returned (headVal h) ∧ Below w.heap.size w w' := by
  obtain ⟨p, r, t, d, n⟩ := h
  unfold headVal
  dsimp only at hp hr ⊢
  have S0 : Hid (HTwo w _ p r t d n ⟨#[]⟩ ⟨#[]⟩ 0 0 0) := HTwo.new w p r t d n ⟨#[]⟩ ⟨#[]⟩ 0 0 0
  have q1 := fun w' => implClone p w' hp
  have q2 := fun w' => implClone r w' hr
  clear hp hr
  go_enter Tryz.func34, Tryz.ntmps34
  go_wp2_with fail
  refine (q1 _).mono ?_
  rintro e w1 ⟨rfl, b1⟩
  have S1 : Hid (HTwo w w1 p r t d n ⟨#[]⟩ ⟨#[]⟩ 0 0 0) := S0.out.call b1
  obtain ⟨c0, c1, c2, c3, c4, z0, z1, z2, z3, z4⟩ := S1.out.1.facts
  clear S0 b1 q1
  have S2 : Hid (HTwo w (w1.setCell ⟨w.heap.size, 0, none⟩ (.string p)) p r t d n ⟨#[]⟩ ⟨#[]⟩ 0 0 0) := S1.out.set0 p
  go_wp2_with fail
  refine (q2 _).mono ?_
  rintro e w2 ⟨rfl, b2⟩
  have S3 : Hid (HTwo w w2 p r t d n ⟨#[]⟩ ⟨#[]⟩ 0 0 0) := S2.out.call b2
  clear c0 c1 c2 c3 c4 z0 z1 z2 z3 z4 S1 S2 b2 q2
  obtain ⟨c0, c1, c2, c3, c4, z0, z1, z2, z3, z4⟩ := S3.out.1.facts
  obtain ⟨d0, d1, d2, d3, d4, f0, f1, f2, f3, f4⟩ := S3.out.2.1.facts
  have S4 : Hid (HTwo w (((((((w2.setCell ⟨w.heap.size, 1, none⟩ (.string r))).setCell ⟨w.heap.size + 1, 0, none⟩ (.string p)).setCell ⟨w.heap.size + 1, 1, none⟩ (.string r)).setCell ⟨w.heap.size + 1, 2, none⟩ (.int .i64 t)).setCell ⟨w.heap.size + 1, 3, none⟩ (.int .i64 d)).setCell ⟨w.heap.size + 1, 4, none⟩ (.int .i64 n)) p r t d n p r t d n) := (S3.out.set1 r).back p r t d n
  go_wp2_with fail
  exact bodyPost_ret (results_cell_row (p := 2) rfl _ _ (w.heap.size + 1) 36 #[.string p, .string r, .int .i64 t, .int .i64 d, .int .i64 n] (0, 0) _ rfl S4.out.2.1 Tryz.underlying36 rfl (by kernel_rfl)) rfl ⟨rfl, S4.out.2.2⟩

end Go.Proofs.YtkajpkfhedfmaaaGreatDoor

set_option linter.unusedVariables false
namespace Go.Proofs.YtkajpkfhedfmaaaGreatDoor
open Go.RowKit

theorem ok_nonce {h : HeadV} {k : Nat} (hk : k ≤ 400) : headOkB (headNo h k) = headOkB (headNo h 0) := by
  have e1 : decide (0 ≤ (headNo h k).nonce ∧ (headNo h k).nonce ≤ 400) = true := decide_eq_true (by show 0 ≤ (k : Int) ∧ (k : Int) ≤ 400; omega)
  have e2 : decide (0 ≤ (headNo h 0).nonce ∧ (headNo h 0).nonce ≤ 400) = true := decide_eq_true (by show 0 ≤ ((0 : Nat) : Int) ∧ ((0 : Nat) : Int) ≤ 400; omega)
  unfold headOkB
  rw [e1, e2]
  rfl

set_option maxHeartbeats 1000000 in
set_option maxRecDepth 100000 in
theorem specL3Mine (h : HeadV) (w : World) (hok : headOkB (headNo h 0) = true) :
    Calls Tryz.prog 132 #[headVal h] w fun e w' => e = .returned (.tuple #[headVal (headMine h).1, .bool (headMine h).2]) ∧ Below w.heap.size w w' := by
  have HME : Hid (∀ k, k ≤ 400 → headMeets (headNo h k) = true → (∀ j, j < k → headMeets (headNo h j) = false) → headMine h = (headNo h k, true)) := fun k => headMine_yes
  have HNO : Hid ((∀ j, j < 401 → headMeets (headNo h j) = false) → headMine h = (zeroH, false)) := headMine_no
  have HMT := fun (k : Nat) (hk : k ≤ 400) w' => specL3Meets (headNo h k) w' ((ok_nonce hk).trans hok)
  generalize headMine h = M at HME HNO ⊢
  clear hok
  obtain ⟨p, r, t, d, n⟩ := h
  unfold headNo at HMT HME HNO
  unfold headVal at HMT ⊢
  dsimp only at HMT HME HNO ⊢
  have S0 : Hid (HTwo w _ p r t d 0 ⟨#[]⟩ ⟨#[]⟩ 0 0 0) := (HTwo.new w p r t d n ⟨#[]⟩ ⟨#[]⟩ 0 0 0).set4 0
  go_enter Tryz.func132, Tryz.ntmps132
  go_wp2_with fail
  go_loopw [] (fun wr => ∃ k : Nat, k ≤ 401 ∧ Hid (HTwo w wr p r t d (k : Int) ⟨#[]⟩ ⟨#[]⟩ 0 0 0) ∧ Hid (∀ j, j < k → headMeets ⟨p, r, t, d, (j : Int)⟩ = false)) (fun wr => 401 - (intOf ((wr.cell? ⟨w.heap.size, 4, none⟩).getD undef)).toNat)
  case atStart => exact ⟨0, by omega, by first | exact S0 | exact HTwo.new w p r t d 0 ⟨#[]⟩ ⟨#[]⟩ 0 0 0, fun j hj => by omega⟩
  case round =>
    clear S0
    obtain ⟨k, hk, S0, HJ⟩ := hrel
    obtain ⟨c0, c1, c2, c3, c4, z0, z1, z2, z3, z4⟩ := S0.out.1.facts
    obtain ⟨d0, d1, d2, d3, d4, f0, f1, f2, f3, f4⟩ := S0.out.2.1.facts
    by_cases hlt : k < 401
    · have lk : (k : Int) ≤ 400 := by omega
      have hmt := HMT k (by omega)
      have HMk := HME.out k (by omega)
      have HMk' : Hid (headMeets ⟨p, r, t, d, (k : Int)⟩ = true → M = (⟨p, r, t, d, (k : Int)⟩, true)) := fun h => HMk h HJ.out
      have HJ2 : Hid (headMeets ⟨p, r, t, d, (k : Int)⟩ = false → ∀ j, j < k + 1 → headMeets ⟨p, r, t, d, (j : Int)⟩ = false) := by
        intro h j hj
        rcases Nat.lt_or_ge j k with h' | h'
        · exact HJ.out j h'
        · obtain rfl : j = k := by omega
          exact h
      clear HMT HME HMk
      generalize headMeets ⟨p, r, t, d, (k : Int)⟩ = b at hmt HMk' HJ2
      go_wp2_with fail
      refine (hmt _).mono ?_
      rintro e w1 ⟨rfl, b1⟩
      have S2 : Hid (HTwo w w1 p r t d (k : Int) ⟨#[]⟩ ⟨#[]⟩ 0 0 0) := S0.out.call b1
      have HC4 : Hid (wr.cell? ⟨w.heap.size, 4, none⟩ = some (.int .i64 (k : Int))) := c4
      clear c0 c1 c2 c3 c4 z0 z1 z2 z3 z4 d0 d1 d2 d3 d4 f0 f1 f2 f3 f4 S0 b1 hmt
      obtain ⟨c0, c1, c2, c3, c4, z0, z1, z2, z3, z4⟩ := S2.out.1.facts
      obtain ⟨d0, d1, d2, d3, d4, f0, f1, f2, f3, f4⟩ := S2.out.2.1.facts
      cases b with
      | true =>
        have S4 : Hid (HTwo w _ p r t d (k : Int) p r t d (k : Int)) := S2.out.back p r t d (k : Int)
        have HM : Hid (M = (⟨p, r, t, d, (k : Int)⟩, true)) := HMk'.out (by first | rfl | trivial)
        clear HMk' HJ2
        go_wp2_with fail
        exact bodyPost_ret (results_row_tmp (p := 2) (u := 3) rfl _ _ (w.heap.size + 1) 36 #[.string p, .string r, .int .i64 t, .int .i64 d, .int .i64 (k : Int)] (0, 0) _ rfl S4.out.2.1 Tryz.underlying36 rfl (by kernel_rfl)) rfl ⟨by rw [HM.out]; rfl, S4.out.2.2⟩
      | false =>
        have HJ4 : Hid (∀ j, j < k + 1 → headMeets ⟨p, r, t, d, (j : Int)⟩ = false) := HJ2.out (by first | rfl | trivial)
        clear HJ2 HJ HMk'
        have HK1 : Hid (k + 1 ≤ 401) := hlt
        have S5 : Hid (HTwo w (w1.setCell ⟨w.heap.size, 4, none⟩ (.int .i64 ((k : Int) + 1))) p r t d ((k + 1 : Nat) : Int) ⟨#[]⟩ ⟨#[]⟩ 0 0 0) := S2.out.set4 ((k + 1 : Nat) : Int)
        have wk : IntKind.i64.wrap ((k : Int) + 1) = (k : Int) + 1 := by rw [IntKind.wrap_i64]; omega
        go_wp2_with fail
        go_roundw
        case rel => exact ⟨k + 1, HK1.out, S5, HJ4⟩
        case measure =>
          have e1 := S5.out.1.facts.2.2.2.2.1
          rw [e1, HC4.out]
          have := HK1.out
          simp [intOf]
          omega
    · obtain rfl : k = 401 := by omega
      have HM : Hid (M = (zeroH, false)) := HNO.out HJ.out
      have S4 : Hid (HTwo w _ p r t d ((401 : Nat) : Int) ⟨#[]⟩ ⟨#[]⟩ 0 0 0) := S0.out.back ⟨#[]⟩ ⟨#[]⟩ 0 0 0
      clear HMT HME
      go_wp2_with fail
      exact bodyPost_ret (results_row_tmp (p := 2) (u := 3) rfl _ _ (w.heap.size + 1) 36 #[.string ⟨#[]⟩, .string ⟨#[]⟩, .int .i64 0, .int .i64 0, .int .i64 0] (0, 0) _ rfl S4.out.2.1 Tryz.underlying36 rfl (by kernel_rfl)) rfl ⟨by rw [HM.out]; rfl, S4.out.2.2⟩

end Go.Proofs.YtkajpkfhedfmaaaGreatDoor

