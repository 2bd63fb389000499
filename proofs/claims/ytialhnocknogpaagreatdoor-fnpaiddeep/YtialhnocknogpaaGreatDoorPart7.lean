/-
  Texts that the last part needs, joined.
-/
import Derived.Test.YtialhnocknogpaaGreatDoorPart1
import Derived.Test.YtialhnocknogpaaGreatDoorPart2
import Derived.Test.YtialhnocknogpaaGreatDoorPart3
import Derived.Test.YtialhnocknogpaaGreatDoorPart4
import Derived.Test.YtialhnocknogpaaGreatDoorPart5
import Derived.Test.YtialhnocknogpaaGreatDoorPart6
import Derived.Deep.RegionHeld3
import Derived.Deep.RegionLaw
import Derived.Deep.RegionWith
import Derived.Deep.AppendLies
import Derived.Deep.Cut
import Derived.Laws.EntriesVeiled
import Derived.WalkKit
import Derived.Below
import Derived.ProofKit
import Derived.OpenShut
import Derived.ShutString
import Derived.ChangeOld
import Derived.ChangeArms
import Derived.WideShapes
import Derived.BigRegion
import Derived.Deep.OwnRows
import Derived.Laws.Rows
set_option linter.unusedVariables false
namespace Go.Proofs.YtialhnocknogpaaGreatDoor
open Go.RowKit

section
variable {w w' : World} {B C g n k b : Nat} {e T : TypeId} {v : Value} {xs : List Value} {cs : Array Value}
theorem ownE_ne (h : w.ownsRow B e k v n xs) (hk : CBk w g T cs) (hT : T ≠ e) : v.ownBlock ≠ some g := by
  rcases h.2 with ⟨rfl, _⟩ | ⟨g', cap, cur, rfl, _, hg, _⟩
  · simp [Value.ownBlock]
  · intro he
    have he' : g' = g := by simpa [Value.ownBlock] using he
    subst he'
    have hk' : w.heap[g']? = some (.cells cs T (0, 0)) := hk
    rw [hg] at hk'
    simp only [Option.some.injEq, Obj.cells.injEq] at hk'
    exact hT hk'.2.1.symm
theorem ownE_is (h : w.ownsRow B e k v n xs) (hv : v.ownBlock = some b) : (∃ cur, CBk w b e cur) ∧ B ≤ b := by
  rcases h.2 with ⟨rfl, _⟩ | ⟨g', cap, cur, rfl, hB, hg, _⟩
  · simp [Value.ownBlock] at hv
  · have : g' = b := by simpa [Value.ownBlock] using hv
    subst this
    exact ⟨⟨cur, hg⟩, hB⟩
theorem ownE_keep (h : w.ownsRow B e k v n xs) (hb : ∀ b, v.ownBlock = some b → b < w.heap.size → w'.heap[b]? = w.heap[b]?) : w'.ownsRow B e k v n xs := by
  refine ⟨h.1, ?_⟩
  rcases h.2 with h1 | ⟨g', cap, cur, rfl, hB, hg, h4⟩
  · exact .inl h1
  · refine .inr ⟨g', cap, cur, rfl, hB, ?_, h4⟩
    rw [hb g' rfl (CBk.lt (cs := cur) (T := e) hg)]
    exact hg
theorem ownE_mono (h : w.ownsRow B e k v n xs) (hc : C ≤ B) : w.ownsRow C e k v n xs := by
  refine ⟨h.1, ?_⟩
  rcases h.2 with h1 | ⟨g', cap, cur, hv, hB, h4⟩
  · exact .inl h1
  · exact .inr ⟨g', cap, cur, hv, Nat.le_trans hc hB, h4⟩
theorem own_slice (h : w.ownsRow B e k v n xs) : ∃ a m c, v = .slice a m c := by
  rcases h.2 with ⟨rfl, _⟩ | ⟨g', cap, cur, rfl, _⟩
  · exact ⟨_, _, _, rfl⟩
  · exact ⟨_, _, _, rfl⟩
/-- Behind a store into a block of another type. -/
theorem ownE_set {j : Nat} {u : Value} (h : w.ownsRow B e k v n xs) (hk : CBk w g T cs) (hT : T ≠ e) : (w.setCell ⟨g, j, none⟩ u).ownsRow B e k v n xs := by
  have hne := ownE_ne h hk hT
  refine ownE_keep h (fun b hv _ => ?_)
  have : g ≠ b := by
    intro he
    subst he
    exact hne hv
  simp [World.setCell, Array.getElem?_modify, this]
theorem ownE_below (h : w.ownsRow B e k v n xs) (hb : Below w.heap.size w w') : w'.ownsRow B e k v n xs := ownE_keep h (fun b _ hlt => hb.block b hlt)
end
theorem cbk_ne {w : World} {g g' : Nat} {T T' : TypeId} {cs cs' : Array Value} (h : CBk w g T cs) (h' : CBk w g' T' cs') (hT : T ≠ T') : g ≠ g' := by
  intro he
  subst he
  have h1 : w.heap[g]? = some (.cells cs T (0, 0)) := h
  have h2 : w.heap[g]? = some (.cells cs' T' (0, 0)) := h'
  rw [h1] at h2
  simp only [Option.some.injEq, Obj.cells.injEq] at h2
  exact hT h2.2.1
theorem cbk_notT {w : World} {g : Nat} {T P : TypeId} {cs : Array Value} (h : CBk w g T cs) (hT : T ≠ P) : ∀ cur fr, w.heap[g]? ≠ some (.cells cur P fr) := by
  intro cur fr he
  have h1 : w.heap[g]? = some (.cells cs T (0, 0)) := h
  rw [h1] at he
  simp only [Option.some.injEq, Obj.cells.injEq] at he
  exact hT he.2.1
/-- No block but one, and those of one type, has changed. -/
def OffT (P : TypeId) (gp : Nat) (w w' : World) : Prop := w.heap.size ≤ w'.heap.size ∧ ∀ c, c < w.heap.size → c ≠ gp → (∀ cur fr, w.heap[c]? ≠ some (.cells cur P fr)) → w'.heap[c]? = w.heap[c]?
theorem OffT.refl (P : TypeId) (gp : Nat) (w : World) : OffT P gp w w := ⟨Nat.le_refl _, fun _ _ _ _ => rfl⟩
theorem OffT.trans {P : TypeId} {gp : Nat} {w w1 w2 : World} (h : OffT P gp w w1) (h2 : OffT P gp w1 w2) : OffT P gp w w2 :=
  ⟨Nat.le_trans h.1 h2.1, fun c hc hne hp => by
    have e := h.2 c hc hne hp
    rw [← e]
    exact h2.2 c (Nat.lt_of_lt_of_le hc h.1) hne (fun cur fr => by rw [e]; exact hp cur fr)⟩
theorem OffT.below {P : TypeId} {gp : Nat} {w w1 w2 : World} (h : OffT P gp w w1) (hb : Below w1.heap.size w1 w2) : OffT P gp w w2 :=
  h.trans ⟨hb.size, fun c hc _ _ => hb.block c hc⟩
theorem OffT.set {P : TypeId} {gp g j : Nat} {w w1 : World} (h : OffT P gp w w1) (hg : w.heap.size ≤ g ∨ g = gp) (v : Value) : OffT P gp w (w1.setCell ⟨g, j, none⟩ v) :=
  ⟨by simpa using h.1, fun c hc hne hp => by
    rw [← h.2 c hc hne hp]
    have : c ≠ g := by rcases hg with h' | h' <;> omega
    simp [World.setCell, Array.getElem?_modify, Ne.symm this]⟩
theorem OffT.cbk {P : TypeId} {gp g : Nat} {w w' : World} {T : TypeId} {cs : Array Value} (h : OffT P gp w w') (hk : CBk w g T cs) (hT : T ≠ P) (hne : g ≠ gp) : CBk w' g T cs := (h.2 g hk.lt hne (cbk_notT hk hT)).trans hk
/-- A row of another type stands. -/
theorem OffT.own {P : TypeId} {gp B n k : Nat} {w w' : World} {e T : TypeId} {v : Value} {xs : List Value} {cs : Array Value} (h : OffT P gp w w') (hr : w.ownsRow B e k v n xs) (he : e ≠ P) (hk : CBk w gp T cs) (hT : e ≠ T) : w'.ownsRow B e k v n xs :=
  ownE_keep hr (fun b hv hlt => by
    obtain ⟨⟨cur, hb⟩, _⟩ := ownE_is hr hv
    exact h.2 b hlt (cbk_ne hb hk hT) (cbk_notT hb he))
end Go.Proofs.YtialhnocknogpaaGreatDoor

set_option linter.unusedVariables false
namespace Go.Proofs.YtialhnocknogpaaGreatDoor
open Go.RowKit Go.Deep

def nEnc (a : NodeV) : List Value := [.string a.1.sum, .int .i64 a.1.work, .int .i64 a.1.count, .bool a.2]
theorem nEnc_len (a : NodeV) : (nEnc a).length = 4 := rfl
theorem nEnc_one (a : NodeV) : ∀ u ∈ nEnc a, u.oneCell' = true := by
  intro u hu
  simp only [nEnc, List.mem_cons, List.not_mem_nil, or_false] at hu
  rcases hu with rfl | rfl | rfl | rfl <;> rfl
/-- A node pushed, the first one first: the stack, what is noted. -/
def addS (l : List NodeV) (p : NodeV) : List NodeV := (addN l.reverse p).reverse
def noteS (l : List NodeV) (p : NodeV) : List PeakV := noteR l.reverse p
theorem addS_nil (p : NodeV) : addS [] p = [p] := rfl
theorem noteS_nil (p : NodeV) : noteS [] p = [] := rfl
theorem addS_yes {l : List NodeV} {t q : NodeV} (h : t.1.count = q.1.count) : addS (l ++ [t]) q = addS l (bothN t q) := by simp [addS, addN, h]
theorem addS_no {l : List NodeV} {t q : NodeV} (h : ¬ t.1.count = q.1.count) : addS (l ++ [t]) q = l ++ [t] ++ [q] := by simp [addS, addN, h]
theorem noteS_yes {l : List NodeV} {t q : NodeV} (h : t.1.count = q.1.count) : noteS (l ++ [t]) q = noteN t q ++ noteS l (bothN t q) := by simp [noteS, noteR, h]
theorem noteS_no {l : List NodeV} {t q : NodeV} (h : ¬ t.1.count = q.1.count) : noteS (l ++ [t]) q = [] := by simp [noteS, noteR, h]
theorem takeN_one {l : List NodeV} {m : Nat} (h : m < l.length) : l.take (m + 1) = l.take m ++ [l.getD m default] := by
  rw [List.take_add_one, List.getElem?_eq_getElem h]
  simp [List.getElem?_eq_getElem h]
theorem fst_at {l : List NodeV} {m : Nat} (h : m < l.length) : (l.map Prod.fst).getD m default = (l.getD m default).1 := by
  simp [List.getD_eq_getElem?_getD, List.getElem?_eq_getElem h]
theorem cbk_not {w : World} {g : Nat} {T : TypeId} {cs : Array Value} (h : CBk w g T cs) (hT : T ≠ 54) : ∀ cur fr, w.heap[g]? ≠ some (.cells cur 54 fr) := by
  intro cur fr he
  have h1 : w.heap[g]? = some (.cells cs T (0, 0)) := h
  rw [h1] at he
  simp only [Option.some.injEq, Obj.cells.injEq] at he
  exact hT he.2.1
theorem Off.cbk {gp g : Nat} {w w' : World} {T : TypeId} {cs : Array Value} (h : Off gp w w') (hk : CBk w g T cs) (hT : T ≠ 54) (hne : g ≠ gp) : CBk w' g T cs := (h.2 g hk.lt hne (cbk_not hk hT)).trans hk
theorem Pf.b {w0 wr : World} {gp : Nat} {ss : List PeakV} (h : Pf w0 wr gp ss) : Below w0.heap.size w0 wr := by
  obtain ⟨vs, h⟩ := h
  exact h.b
theorem Pf.call {w0 wr w' : World} {gp : Nat} {ss : List PeakV} (h : Pf w0 wr gp ss) (hb : Below wr.heap.size wr w') : Pf w0 w' gp ss := by
  obtain ⟨vs, h⟩ := h
  exact ⟨vs, h.call hb⟩
theorem Pf.blk {w0 wr : World} {gp : Nat} {ss : List PeakV} (h : Pf w0 wr gp ss) : ∃ cs, CBk wr gp 27 cs := by
  obtain ⟨vs, h⟩ := h
  exact ⟨_, h.k⟩
theorem Pf.store {w0 wr : World} {gp g j : Nat} {T : TypeId} {ss : List PeakV} {cs : Array Value} (h : Pf w0 wr gp ss) (hk : CBk wr g T cs) (hT : T ≠ 54) (hF : T ≠ 27) (hlo : w0.heap.size ≤ g) (u : Value) : Pf w0 (wr.setCell ⟨g, j, none⟩ u) gp ss := by
  obtain ⟨vs, h⟩ := h
  exact ⟨vs, h.store hk hT (cbk_ne hk h.k hF) hlo u⟩
end Go.Proofs.YtialhnocknogpaaGreatDoor

set_option linter.unusedVariables false
namespace Go.Proofs.YtialhnocknogpaaGreatDoor
open Go.RowKit Go.Deep

end Go.Proofs.YtialhnocknogpaaGreatDoor



set_option linter.unusedVariables false
namespace Go.Proofs.YtialhnocknogpaaGreatDoor
open Go.RowKit Go.Deep

set_option maxHeartbeats 1000000 in
set_option maxRecDepth 100000 in
theorem implCloneP (s : ByteArray) (w : World) (hs : s.size ≤ 281474976710656) :
    Calls Tryz.prog 32 #[.string s] w fun e w' => e = .returned (.string s) ∧ Below w.heap.size w w' := by
  go_enter Tryz.func32, Tryz.ntmps32
  go_wp2_with fail
  refine (Tryz.stringslite_Clone s w hs).mono ?_
  rintro e w1 ⟨rfl, b1⟩
  go_wp2_with fail
  go_ret
  exact ⟨rfl, b1⟩
theorem makeP0 (n : Nat) (hn : n ≤ 1048577) (w : World) : (Instr.makeSlice 25 (.int .i64 0) (.int .i64 (n : Int))).run Tryz.prog w = .ok (.slice (some ⟨w.heap.size, 0, none⟩) 0 n) (w.alloc (.cells (madeCells #[.string ⟨#[]⟩, .int .i64 0, .int .i64 0] (n * 3)) 54)) := by
  obtain ⟨i, hi, hz, hs, hb⟩ := info3 infoPeak
  have hb' : (i.bytes : Int) * (n : Int) ≤ 281474976710656 := by rw [hb]; omega
  have hr := run_make (P := Tryz.prog) w 25 54 i _ Tryz.underlying25 hi hz .i64 .i64 0 (n : Int) (by omega) (by omega) hb' (by omega)
  simp only [Int.toNat_natCast, hs, Value.cells] at hr
  exact hr
theorem StkW.lower {w0 w1 wr : World} {g r c M : Nat} {l : List PeakV} (h : StkW w1 wr g r c M l) (hb : Below w0.heap.size w0 w1) : StkW w0 wr g r c M l := by
  have h1 := (FRow.mono h.frow hb.size).2
  rw [h.len] at h1
  exact ⟨h.s, h1, h.len, hb.trans (h.b.mono hb.size), h.rg, Nat.le_trans hb.size h.lo⟩
theorem Stk.lower {w0 w1 wr : World} {g : Nat} {l : List PeakV} (h : Stk w1 wr g l) (hb : Below w0.heap.size w0 w1) : Stk w0 wr g l := by
  obtain ⟨r, c, M, h⟩ := h
  exact ⟨r, c, M, h.lower hb⟩
theorem Stk.call {w0 wr w' : World} {g : Nat} {l : List PeakV} (h : Stk w0 wr g l) (hb : Below wr.heap.size wr w') : Stk w0 w' g l := by
  obtain ⟨r, c, M, h⟩ := h
  exact ⟨r, c, M, h.call hb⟩
theorem Stk.b {w0 wr : World} {g : Nat} {l : List PeakV} (h : Stk w0 wr g l) : Below w0.heap.size w0 wr := by
  obtain ⟨r, c, M, h⟩ := h
  exact h.b
/-- The stack is new. -/
def StackRes (w : World) (l : List PeakV) (e : Ending) (w' : World) : Prop := ∃ g, e = .returned (.pointer (some ⟨g, 0, none⟩)) ∧ Stk w w' g l
theorem stack_new {w w1 : World} {v : Value} {l : List PeakV} (hR : PRow w.heap.size v l w1) (hb : Below w.heap.size w w1) : StackRes w l (.returned (.pointer (some ⟨w1.heap.size, 0, none⟩))) (w1.alloc (.cells #[v, .func (.func 33) #[] #[], .func (.func 34) #[] #[]] 63)) := by
  obtain ⟨g, c, cur, rfl, h1, h2, _⟩ := hR.block
  have h5 := (FRow.below hR ((Below.refl _ w1).alloc (Nat.le_refl _) (.cells #[.slice (some ⟨g, 0, none⟩) l.length c, .func (.func 33) #[] #[], .func (.func 34) #[] #[]] 63))).2
  exact ⟨_, rfl, g, c, l.length, CBk.new w1 _ _, h5, rfl, hb.alloc hb.size _, by omega, hb.size⟩

set_option maxHeartbeats 4000000 in
set_option maxRecDepth 100000 in
theorem implPeakStackNil (w : World) :
    Calls Tryz.prog 19 #[.slice none 0 0] w fun e w' => StackRes w [] e w' := by
  have hmk : (Instr.makeSlice 25 (.int .i64 0) (.int .i64 1)).run Tryz.prog w = _ := makeP0 1 (by omega) w
  have R0 : Hid (PRow w.heap.size (.slice (some ⟨w.heap.size, 0, none⟩) 0 1) [] (w.alloc (.cells (madeCells #[.string ⟨#[]⟩, .int .i64 0, .int .i64 0] (1 * 3)) 54))) :=
    ⟨⟨_, _, rfl⟩, by simp, .inr ⟨w.heap.size, 1, _, rfl, Nat.le_refl _, heap_alloc_new w _, Nat.zero_le _, by unfold maxLen; omega, by simp [madeCells], by simp⟩⟩
  have B0 : Hid (Below w.heap.size w (w.alloc (.cells (madeCells #[.string ⟨#[]⟩, .int .i64 0, .int .i64 0] (1 * 3)) 54))) := (Below.refl _ w).alloc (Nat.le_refl _) _
  generalize w.alloc (.cells (madeCells #[.string ⟨#[]⟩, .int .i64 0, .int .i64 0] (1 * 3)) 54) = wm at hmk R0 B0
  have HQ : Hid (∀ (w1 : World) (v : Value), PRow w.heap.size v [] w1 → Below w.heap.size w w1 → StackRes w [] (.returned (.pointer (some ⟨w1.heap.size, 0, none⟩))) (w1.alloc (.cells #[v, .func (.func 33) #[] #[], .func (.func 34) #[] #[]] 63))) := fun w1 v h1 h2 => stack_new h1 h2
  generalize StackRes w [] = Q at HQ ⊢
  go_enter Tryz.func19, Tryz.ntmps19
  go_wp2_with fail
  clear hmk
  go_loopw [3, 12] (fun v i wr => v = .slice (some ⟨w.heap.size, 0, none⟩) 0 1 ∧ i = .int .i64 0 ∧ Hid (wr = wm)) (fun _ _ _ => 0)
  case atStart => exact ⟨rfl, rfl, rfl⟩
  case round =>
    obtain ⟨rfl, rfl, HW⟩ := hrel
    go_wp2_with fail
    rw [HW.out]
    exact HQ.out _ _ R0.out B0.out

set_option maxHeartbeats 8000000 in
set_option maxRecDepth 100000 in
theorem implPeakStack (g n cap : Nat) (ps : List PeakV) (w : World) (h : AtP w g ps) (hn : n = ps.length) (hm : n ≤ 1048576) (hz : ∀ i, i < ps.length → (ps.getD i default).sum.size ≤ 281474976710656) :
    Calls Tryz.prog 19 #[.slice (some ⟨g, 0, none⟩) n cap] w fun e w' => StackRes w ps e w' := by
  obtain ⟨i0, hi, hz0, hz1, hz2⟩ := info3 infoPeak
  have hmk : (Instr.makeSlice 25 (.int .i64 0) (.int .i64 ((n : Int) + 1))).run Tryz.prog w = _ := makeP0 (n + 1) (by omega) w
  have HA : Hid (AtP w g ps) := h
  have HN : Hid (n = ps.length) := hn
  have HSZ : Hid (∀ i, i < ps.length → (ps.getD i default).sum.size ≤ 281474976710656) := hz
  have R0 : Hid (PRow w.heap.size (.slice (some ⟨w.heap.size, 0, none⟩) 0 (n + 1)) [] (w.alloc (.cells (madeCells #[.string ⟨#[]⟩, .int .i64 0, .int .i64 0] ((n + 1) * 3)) 54))) :=
    ⟨⟨_, _, rfl⟩, by simp, .inr ⟨w.heap.size, n + 1, _, rfl, Nat.le_refl _, heap_alloc_new w _, Nat.zero_le _, by unfold maxLen; omega, by simp [madeCells], by simp⟩⟩
  have B0 : Hid (Below w.heap.size w (w.alloc (.cells (madeCells #[.string ⟨#[]⟩, .int .i64 0, .int .i64 0] ((n + 1) * 3)) 54))) := (Below.refl _ w).alloc (Nat.le_refl _) _
  generalize (w.alloc (.cells (madeCells #[.string ⟨#[]⟩, .int .i64 0, .int .i64 0] ((n + 1) * 3)) 54)) = wm at hmk R0 B0
  have HQ : Hid (∀ (w1 : World) (v : Value), PRow w.heap.size v (ps.take n) w1 → Below w.heap.size w w1 → StackRes w ps (.returned (.pointer (some ⟨w1.heap.size, 0, none⟩))) (w1.alloc (.cells #[v, .func (.func 33) #[] #[], .func (.func 34) #[] #[]] 63))) := fun w1 v h1 h2 => by
    rw [hn, List.take_length] at h1
    exact stack_new h1 h2
  generalize StackRes w ps = Q at HQ ⊢
  clear h hn hz
  have hw1 : IntKind.i64.wrap ((n : Int) + 1) = (n : Int) + 1 := by rw [IntKind.wrap_i64]; omega
  go_enter Tryz.func19, Tryz.ntmps19
  go_wp2_with fail
  clear hmk hw1
  go_loopw [3, 12] (fun v i wr => ∃ (k g2 c2 : Nat), k ≤ n ∧ i = .int .i64 (k : Int) ∧ v = .slice (some ⟨g2, 0, none⟩) k c2 ∧ Hid (PRow w.heap.size (.slice (some ⟨g2, 0, none⟩) k c2) (ps.take k) wr) ∧ Hid (Below w.heap.size w wr)) (fun _ i _ => n - (intOf i).toNat)
  case atStart => exact ⟨0, w.heap.size, n + 1, by omega, rfl, rfl, R0, B0⟩
  case round =>
    clear R0 B0
    obtain ⟨k, g2, c2, hk, rfl, rfl, R, HB⟩ := hrel
    by_cases hlt : k < n
    · have hkl : k < ps.length := by rw [← HN.out]; exact hlt
      have HAr := HA.out.below HB.out HA.out.1
      have q0 := AtP.c0 HAr k hkl
      have q1 := AtP.c1 HAr k hkl
      have q2 := AtP.c2 HAr k hkl
      have lk : (k : Int) < (n : Int) := by omega
      have lk0 : (0 : Int) ≤ (k : Int) := by omega
      have wk : IntKind.i64.wrap ((k : Int) + 1) = (k : Int) + 1 := by rw [IntKind.wrap_i64]; omega
      have HK1 : Hid (k + 1 ≤ n) := hlt
      have HT : Hid (ps.take (k + 1) = ps.take k ++ [ps.getD k default]) := take_one hkl
      have hcl := fun w' => implCloneP (ps.getD k default).sum w' (HSZ.out k hkl)
      have HLT : Hid ((ps.take k).length = k) := by show _ = _; rw [List.length_take]; omega
      clear hkl HAr
      generalize ps.getD k default = t at q0 q1 q2 hcl HT
      have HG2 : Hid (g2 < wr.heap.size ∧ k ≤ c2) := ⟨(FRow.at pEnc_len R.out).1.1, (FRow.at pEnc_len R.out).2.2.2⟩
      have L0 : Hid (Below wr.heap.size wr (wr.alloc (.cells #[.string t.sum, .int .i64 t.work, .int .i64 t.count] 54))) := (Below.refl _ wr).alloc (Nat.le_refl _) _
      have T0 : Hid (CBk (wr.alloc (.cells #[.string t.sum, .int .i64 t.work, .int .i64 t.count] 54)) wr.heap.size 54 #[.string t.sum, .int .i64 t.work, .int .i64 t.count]) := CBk.new wr _ _
      go_wp2_with fail
      refine (hcl _).mono ?_
      rintro e w2 ⟨rfl, b2⟩
      obtain ⟨gs, hgs⟩ : ∃ gs, gs = wr.heap.size := ⟨_, rfl⟩
      have T2 : Hid (CBk w2 gs 54 #[.string t.sum, .int .i64 t.work, .int .i64 t.count]) := by rw [hgs]; exact T0.out.call b2
      have L2 : Hid (Below wr.heap.size wr w2) := L0.out.trans (b2.mono L0.out.size)
      have B2 : Hid (Below w.heap.size w w2) := HB.out.trans (L2.out.mono HB.out.size)
      have HG : Hid (gs = wr.heap.size) := hgs
      rw [← hgs]
      clear hgs L0 T0 b2 hcl q0 q1 q2
      obtain ⟨d0, d1, d2⟩ := T2.out.cells3
      obtain ⟨f0, f1, f2⟩ := T2.out.free3
      have B3 : Hid (Below w.heap.size w (w2.setCell ⟨gs, 0, none⟩ (.string t.sum))) := B2.out.setCell (p := ⟨gs, 0, none⟩) (by show w.heap.size ≤ gs; rw [HG.out]; exact HB.out.size) _
      have T3 : Hid (CBk (w2.setCell ⟨gs, 0, none⟩ (.string t.sum)) gs 54 #[.string t.sum, .int .i64 t.work, .int .i64 t.count]) := T2.out.set 0 _
      have HOW : Hid ((w2.setCell ⟨gs, 0, none⟩ (.string t.sum)).ownsRow w.heap.size 54 3 (.slice (some ⟨g2, 0, none⟩) k c2) k ((ps.take k).flatMap pEnc)) := by
        have h1 := (FRow.below R.out L2.out).2
        rw [HLT.out] at h1
        exact rowKeep h1 (by rw [HG.out]; have := HG2.out.1; omega)
      have hx1 : k + 1 ≤ maxLen := by unfold maxLen; omega
      have hx2 : (k + 1) * 32 ≤ 140737488355328 := by omega
      have hu := pEnc_one t
      have hsz := B3.out.size
      clear R L2 B2 HB
      clear T2
      go_wp2_with (at_builtin; refine wp_appN rfl _ _ 25 rfl w.heap.size 54 i0 (.agg #[.string ⟨#[]⟩, .int .i64 0, .int .i64 0]) 3 32 1 Tryz.underlying25 hi hz0 hz1 hz2 rfl (by decide) (by decide) _ _ _ rfl HOW.out (pEnc t) (by first | rfl | simp [Act.eval]) rfl hu hx1 hx2 hsz ?_; intro g4 c4 w4 hown4 hb4 hkeep4)
      have R4 : Hid (PRow w.heap.size (.slice (some ⟨g4, 0, none⟩) (k + 1) c4) (ps.take (k + 1)) w4) := by
        rw [HT.out]
        refine FRow.of ?_ ?_
        · rw [List.flatMap_append]
          simpa using hown4
        · rw [List.length_append, HLT.out]; rfl
      have B4 : Hid (Below w.heap.size w w4) := B3.out.trans hb4
      clear hown4 hb4 hkeep4 B3 T3 HOW d0 d1 d2 f0 f1 f2
      go_wp2_with fail
      go_roundw
      case rel => exact ⟨k + 1, g4, c4, HK1.out, by go_num, rfl, R4, B4⟩
      case measure => have := HK1.out; simp [intOf]; omega
    · obtain rfl : k = n := by omega
      go_wp2_with fail
      exact HQ.out _ _ R.out HB.out

end Go.Proofs.YtialhnocknogpaaGreatDoor

set_option linter.unusedVariables false
namespace Go.Proofs.YtialhnocknogpaaGreatDoor
open Go.RowKit Go.Deep

set_option maxHeartbeats 2000000 in
set_option maxRecDepth 100000 in
theorem specL5Of (g n cap : Nat) (l : List HeadV) (w : World) (hA : AtHead w g l) (hn : n = l.length) (hm : n ≤ 20) (hok : ∀ i, i < l.length → headOkB (l.getD i default) = true) :
    Calls Tryz.prog 24 #[.slice (some ⟨g, 0, none⟩) n cap] w fun e w' => ∃ v, e = .returned v ∧ PRow w.heap.size v (ofP l n) w' ∧ Below w.heap.size w w' := by
  have HA : Hid (AtHead w g l) := hA
  have HN : Hid (n = l.length) := hn
  have HM : Hid (n ≤ 20) := hm
  have HOK : Hid (∀ i, i < l.length → headOkB (l.getD i default) = true) := hok
  have R0 : Hid (PRow w.heap.size (.slice (some ⟨w.heap.size, 0, none⟩) 0 0) [] (w.alloc (.cells #[] 54))) := frow_new pEnc 54 3 w
  have B0 : Hid (Below w.heap.size w (w.alloc (.cells #[] 54))) := (Below.refl _ w).alloc (Nat.le_refl _) _
  clear hA hn hm hok
  go_enter Tryz.func24, Tryz.ntmps24
  go_wp2_with fail
  generalize w.alloc (.cells #[] 54) = W0 at R0 B0 ⊢
  go_loopw [3, 4] (fun out i wr => ∃ (k : Nat), k ≤ n ∧ i = .int .i64 (k : Int) ∧ Hid (PRow w.heap.size out (ofP l k) wr) ∧ Hid (Below w.heap.size w wr)) (fun _ i _ => n - (intOf i).toNat)
  case atStart => exact ⟨0, by omega, rfl, R0, B0⟩
  case round =>
    clear R0 B0
    obtain ⟨k, hk, rfl, R, HB⟩ := hrel
    by_cases hlt : k < n
    · have hkl : k < l.length := by rw [← HN.out]; exact hlt
      have HAr := HA.out.below HB.out HA.out.1
      have c0 := AtHead.c0 HAr k hkl
      have c1 := AtHead.c1 HAr k hkl
      have c2 := AtHead.c2 HAr k hkl
      have c3 := AtHead.c3 HAr k hkl
      have c4 := AtHead.c4 HAr k hkl
      have lk : (k : Int) < (n : Int) := by omega
      have lk0 : (0 : Int) ≤ (k : Int) := by omega
      have wk : IntKind.i64.wrap ((k : Int) + 1) = (k : Int) + 1 := by have := HM.out; rw [IntKind.wrap_i64]; omega
      have HK1 : Hid (k + 1 ≤ n) := hlt
      have hkk := HOK.out k hkl
      obtain ⟨ho1, ho2, ho3⟩ := ofP_ok HOK.out (by rw [← HN.out]; exact HM.out) k (by omega)
      have hlf := fun w' => specL5Leaf (l.getD k default) w' hkk
      have HLK : Hid (peakOkB (leafP (l.getD k default)) = true) := fine_ok (fine_leaf hkk) (by show (1 : Int) ≤ 20; decide)
      have HL1 : Hid ((leafP (l.getD k default)).count = 1) := rfl
      have HS : Hid (ofP l (k + 1) = addP (ofP l k) (leafP (l.getD k default))) := rfl
      obtain ⟨A2, hA2⟩ : ∃ A2, A2 = ofP l (k + 1) := ⟨_, rfl⟩
      have HE : Hid (A2 = ofP l (k + 1)) := hA2
      rw [← hA2] at HS
      clear hA2
      have HPK : Hid (∀ i, i < (ofP l k).length → peakOkB ((ofP l k).getD i default) = true) := fun i hi => getD_all (C := fun q => peakOkB q = true) ho1 i hi
      have HCN : Hid (cntTo (ofP l k) (ofP l k).length = (k : Int)) := ho2
      have HLL : Hid ((ofP l k).length ≤ k) := ho3
      generalize leafP (l.getD k default) = p at hlf HLK HL1 HS
      generalize ofP l k = A at R HPK HCN HLL HS
      generalize l.getD k default = h at c0 c1 c2 c3 c4 hlf hkk
      obtain ⟨⟨g4, cc, rfl⟩, -⟩ := id R.out
      unfold headVal at hlf
      clear HAr hkk ho1 ho2 ho3
      go_wp2_with fail
      refine (hlf _).mono ?_
      rintro e w3 ⟨rfl, b3⟩
      have B3 : Hid (Below w.heap.size w w3) := HB.out.trans (b3.mono HB.out.size)
      have R3 : Hid (PRow w.heap.size (.slice (some ⟨g4, 0, none⟩) A.length cc) A w3) := R.out.below b3
      have had := specL5Add g4 A.length cc A p w3 (FRow.at pEnc_len R3.out).1 rfl (by have := HLL.out; have := HM.out; omega) HPK.out ⟨HLK.out, by rw [HL1.out, HCN.out]; have := HM.out; omega⟩
      unfold peakVal at had
      unfold peakVal
      rw [← HS.out] at had
      clear hlf b3 R HB c0 c1 c2 c3 c4 HLK HL1 HPK HCN HS
      go_wp2_with fail
      refine had.mono ?_
      rintro e w4 ⟨v, rfl, R4, b4⟩
      have B4 : Hid (Below w.heap.size w w4) := B3.out.trans (b4.mono B3.out.size)
      have R5 : Hid (PRow w.heap.size v A2 w4) := R4.mono B3.out.size
      clear had b4 B3 R3 R4
      go_wp2_with fail
      go_roundw
      case rel => exact ⟨k + 1, HK1.out, by go_num, by rw [← HE.out]; exact R5, B4⟩
      case measure => have := HK1.out; simp [intOf]; omega
    · obtain rfl : k = n := by omega
      go_wp2_with fail
      go_ret
      exact ⟨_, rfl, R.out, HB.out⟩

end Go.Proofs.YtialhnocknogpaaGreatDoor

set_option linter.unusedVariables false
namespace Go.Proofs.YtialhnocknogpaaGreatDoor
open Go.RowKit Go.Deep

theorem room_leaf {ps : List PeakV} {h : HeadV} (hk : headOkB h = true) (hc : cntTo ps ps.length ≤ 20) : Room ps ps.length (leafP h) := by
  refine ⟨fine_ok (fine_leaf hk) (by show (1 : Int) ≤ 20; decide), ?_⟩
  show (1 : Int) + _ ≤ 21
  omega
set_option linter.unusedSimpArgs false in
set_option maxHeartbeats 8000000 in
set_option maxRecDepth 100000 in
theorem implRangeAdd (g n cap : Nat) (ps : List PeakV) (h : HeadV) (w : World) (hA : AtP w g ps) (hn : n = ps.length) (hm : n ≤ 1048576) (hK : RowG w shaK) (hP : TabP w) :
    Calls Tryz.prog 8 #[.slice (some ⟨g, 0, none⟩) n cap, headVal h] w fun e w' => AddPost w.heap.size ps h e w' ∧ Below w.heap.size w w' := by
  have HA : Hid (AtP w g ps) := hA
  have HN : Hid (n = ps.length) := hn
  have HM : Hid (n ≤ 1048576) := hm
  have HK : Hid (RowG w shaK) := hK
  have HP : Hid (TabP w) := hP
  have hok := fun (w' : World) (hb : Below w.heap.size w w') => implRangeOk g n cap ps w' (HA.out.below hb HA.out.1) HN.out (by omega)
  have hho := fun w' => implHeadOk h w'
  have HST : Hid (rangeOkB ps = true → ∀ (w' : World), Below w.heap.size w w' → Calls Tryz.prog 19 #[.slice (some ⟨g, 0, none⟩) n cap] w' fun e w'' => StackRes w' ps e w'') := fun hr w' hb => implPeakStack g n cap ps w' (HA.out.below hb HA.out.1) HN.out HM.out (fun i hi => by rw [sum_size (peakOk_sum (peaks_ok hr i hi))]; decide)
  have HPU : Hid (rangeOkB ps = true → headOkB h = true → ∀ (w' : World) (g4 : Nat), Stk w w' g4 ps → Calls Tryz.prog 20 #[.pointer (some ⟨g4, 0, none⟩), peakVal (leafP h)] w' fun e w'' => PushRes w g4 (addP ps (leafP h)) e w'') := fun hr hk w' g4 hs => implPush w g4 ps (leafP h) w' hs (by have := HN.out; omega) (fun i hi => peaks_ok hr i hi) (room_leaf hk (range_cnt hr)) HK.out HP.out
  have HPH : Hid (headOkB h = true → ∀ (w' : World), Below w.heap.size w w' → Calls Tryz.prog 21 #[headVal h] w' fun e w'' => e = .returned (peakVal (leafP h)) ∧ Below w'.heap.size w' w'') := fun hk w' hb => implPeakHead h w' hk (HK.out.below hb HK.out.lt) (TabP.below HP.out hb (Nat.le_refl _))
  have HLN : Hid (rangeOkB ps = true → (addP ps (leafP h)).length ≤ 1048576) := fun hr => by
    have h1 := addP_len ps (leafP h)
    have h2 := range_len hr
    omega
  have HBAD : Hid (∀ (e : Ending) (w' : World), (rangeOkB ps && headOkB h) = false → e = .returned (.tuple #[.slice none 0 0, .bool false]) → AddPost w.heap.size ps h e w') := fun e w' h1 h2 => .inl ⟨h1, h2⟩
  have HGOOD : Hid (∀ (e : Ending) (w' : World) (v : Value), rangeOkB ps = true → headOkB h = true → e = .returned (.tuple #[v, .bool (rangeOkB (addP ps (leafP h)))]) → PRow w.heap.size v (if rangeOkB (addP ps (leafP h)) then addP ps (leafP h) else ps) w' → AddPost w.heap.size ps h e w') := fun e w' v h1 h2 h3 h4 => .inr ⟨by rw [h1, h2]; rfl, v, h3, h4⟩
  generalize AddPost w.heap.size ps h = Q at HBAD HGOOD ⊢
  generalize leafP h = p at HPU HPH HLN HGOOD
  generalize addP ps p = A at HPU HLN HGOOD
  clear hA hn hm hK hP
  unfold headVal at hho HPH ⊢
  unfold peakVal at HPU HPH
  have C0 : Hid (CBk (w.alloc (.cells #[.string h.prev, .string h.root, .int .i64 h.time, .int .i64 h.diff, .int .i64 h.nonce] 24)) w.heap.size 24 #[.string h.prev, .string h.root, .int .i64 h.time, .int .i64 h.diff, .int .i64 h.nonce]) := CBk.new w _ _
  have B0 : Hid (Below w.heap.size w (w.alloc (.cells #[.string h.prev, .string h.root, .int .i64 h.time, .int .i64 h.diff, .int .i64 h.nonce] 24))) := (Below.refl _ w).alloc (Nat.le_refl _) _
  go_enter Tryz.func8, Tryz.ntmps8
  have h0 := hok _ B0.out
  clear hok
  go_wp2_with fail
  generalize w.alloc (.cells #[.string h.prev, .string h.root, .int .i64 h.time, .int .i64 h.diff, .int .i64 h.nonce] 24) = W0 at C0 B0 h0 ⊢
  obtain ⟨g0, hg0⟩ : ∃ g0, g0 = w.heap.size := ⟨_, rfl⟩
  rw [← hg0] at C0 ⊢
  clear hg0
  cases hrk : rangeOkB ps with
  | false =>
    have HV : Hid (∀ e w', e = .returned (.tuple #[.slice none 0 0, .bool false]) → Q e w') := fun e w' he => HBAD.out e w' (by rw [hrk]; rfl) he
    rw [hrk] at h0
    clear hho HBAD HGOOD hrk HST HPU HPH HLN
    refine Calls.mono h0 ?_
    rintro e w1 ⟨rfl, b1⟩
    go_wp2_with fail
    go_ret2
    have h9 := HV.out
    exact ⟨h9 _ _ rfl, B0.out.trans (b1.mono B0.out.size)⟩
  | true =>
  have HRK : Hid (rangeOkB ps = true) := hrk
  rw [hrk] at h0
  clear hrk
  refine Calls.mono h0 ?_
  rintro e w1 ⟨rfl, b1⟩
  have C1 : Hid (CBk w1 g0 24 #[.string h.prev, .string h.root, .int .i64 h.time, .int .i64 h.diff, .int .i64 h.nonce]) := C0.out.call b1
  have B1 : Hid (Below w.heap.size w w1) := B0.out.trans (b1.mono B0.out.size)
  clear C0 B0 b1 h0
  obtain ⟨e0, e1, e2, e3, e4⟩ := C1.out.cells5
  cases hhk : headOkB h with
  | false =>
    have HV : Hid (∀ e w', e = .returned (.tuple #[.slice none 0 0, .bool false]) → Q e w') := fun e w' he => HBAD.out e w' (by rw [hhk, HRK.out]; rfl) he
    rw [hhk] at hho
    clear HBAD HGOOD hhk HST HPU HPH HLN
    go_wp2_with fail
    refine (hho _).mono ?_
    rintro e w2 ⟨rfl, b2⟩
    go_wp2_with fail
    go_ret2
    have h9 := HV.out
    exact ⟨h9 _ _ rfl, B1.out.trans (b2.mono B1.out.size)⟩
  | true =>
  have HHK : Hid (headOkB h = true) := hhk
  rw [hhk] at hho
  clear hhk HBAD
  go_wp2_with fail
  refine (hho _).mono ?_
  rintro e w2 ⟨rfl, b2⟩
  have C2 : Hid (CBk w2 g0 24 #[.string h.prev, .string h.root, .int .i64 h.time, .int .i64 h.diff, .int .i64 h.nonce]) := C1.out.call b2
  have B2 : Hid (Below w.heap.size w w2) := B1.out.trans (b2.mono B1.out.size)
  have hst := HST.out HRK.out _ B2.out
  clear C1 B1 b2 hho e0 e1 e2 e3 e4
  go_wp2_with fail
  refine Calls.mono hst ?_
  rintro e w3 ⟨g4, rfl, hs3⟩
  have S3 : Hid (Stk w w3 g4 ps) := hs3.lower B2.out
  have C3 : Hid (CBk w3 g0 24 #[.string h.prev, .string h.root, .int .i64 h.time, .int .i64 h.diff, .int .i64 h.nonce]) := C2.out.call hs3.b
  clear C2 B2 hst hs3
  obtain ⟨e0, e1, e2, e3, e4⟩ := C3.out.cells5
  have hph := HPH.out HHK.out _ S3.out.b
  clear HPH
  go_wp2_with fail
  refine hph.mono ?_
  rintro e w4 ⟨rfl, b4⟩
  have S4 : Hid (Stk w w4 g4 ps) := S3.out.call b4
  have hpu := HPU.out HRK.out HHK.out _ _ S4.out
  clear HPU S3 C3 b4 hph e0 e1 e2 e3 e4
  go_wp2_with fail
  refine Calls.mono hpu ?_
  rintro e w5 ⟨rfl, r, c, M, hs5⟩
  have S5 : Hid (StkW w w5 g4 r c M A) := hs5
  have HM5 : Hid (M = A.length) := hs5.len.symm
  clear hpu hs5 S4
  obtain ⟨a0, a1, a2⟩ := S5.out.outs
  have hok5 := implRangeOk r M c A w5 S5.out.at.1 S5.out.at.2.1 (by rw [HM5.out]; have := HLN.out HRK.out; omega)
  go_wp2_with fail
  cases hra : rangeOkB A with
  | true =>
    have HV : Hid (∀ e w' v, e = .returned (.tuple #[v, .bool true]) → PRow w.heap.size v A w' → Q e w') := fun e w' v he hR => HGOOD.out e w' v HRK.out HHK.out (by rw [hra]; exact he) (by rw [hra]; exact hR)
    rw [hra] at hok5
    clear hra HGOOD HST HLN
    refine hok5.mono ?_
    rintro e w6 ⟨rfl, b6⟩
    have S6 : Hid (StkW w w6 g4 r c M A) := S5.out.call b6
    clear S5 b6 hok5 a0 a1 a2
    obtain ⟨a0, a1, a2⟩ := S6.out.outs
    go_wp2_with fail
    go_ret2
    have h9 := HV.out
    exact ⟨h9 _ _ _ rfl S6.out.frow, S6.out.b⟩
  | false =>
    have HV : Hid (∀ e w' v, e = .returned (.tuple #[v, .bool false]) → PRow w.heap.size v ps w' → Q e w') := fun e w' v he hR => HGOOD.out e w' v HRK.out HHK.out (by rw [hra]; exact he) (by rw [hra]; exact hR)
    rw [hra] at hok5
    clear hra HGOOD HLN
    refine hok5.mono ?_
    rintro e w6 ⟨rfl, b6⟩
    have B6 : Hid (Below w.heap.size w w6) := S5.out.b.trans (b6.mono S5.out.b.size)
    have hst := HST.out HRK.out _ B6.out
    clear S5 b6 hok5 a0 a1 a2 HST
    go_wp2_with fail
    refine Calls.mono hst ?_
    rintro e w7 ⟨g8, rfl, r8, c8, M8, hs7⟩
    have S7 : Hid (StkW w w7 g8 r8 c8 M8 ps) := hs7.lower B6.out
    clear hst hs7 B6
    obtain ⟨a0, a1, a2⟩ := S7.out.outs
    go_wp2_with fail
    go_ret2
    have h9 := HV.out
    exact ⟨h9 _ _ _ rfl S7.out.frow, S7.out.b⟩

end Go.Proofs.YtialhnocknogpaaGreatDoor

set_option linter.unusedVariables false
namespace Go.Proofs.YtialhnocknogpaaGreatDoor
open Go.RowKit Go.Deep

/-- Whether heads can be those of a range. -/
def headsB (l : List HeadV) : Bool := decide (l.length ≤ 20) && l.all headOkB
theorem heads_at {l : List HeadV} (h : headsB l = true) (i : Nat) (hi : i < l.length) : headOkB (l.getD i default) = true := by
  rw [headsB, Bool.and_eq_true, List.all_eq_true] at h
  rw [List.getD_eq_getElem?_getD, List.getElem?_eq_getElem hi]
  exact h.2 _ (List.getElem_mem hi)
theorem heads_len {l : List HeadV} (h : headsB l = true) : l.length ≤ 20 := by
  rw [headsB, Bool.and_eq_true, decide_eq_true_eq] at h
  exact h.1
theorem heads_long {l : List HeadV} (h : ¬ l.length ≤ 20) : headsB l = false := by rw [headsB, decide_eq_false h]; rfl
theorem heads_bad {l : List HeadV} {i : Nat} (hi : i < l.length) (h : headOkB (l.getD i default) = false) : headsB l = false := by
  cases hs : headsB l with
  | false => rfl
  | true => rw [heads_at hs i hi] at h; cases h
theorem heads_good {l : List HeadV} (h8 : l.length ≤ 20) (h : ∀ i, i < l.length → headOkB (l.getD i default) = true) : headsB l = true := by
  rw [headsB, decide_eq_true h8, Bool.true_and, List.all_eq_true]
  intro q hq
  obtain ⟨j, hj, rfl⟩ := List.mem_iff_getElem.1 hq
  have := h j hj
  rwa [List.getD_eq_getElem?_getD, List.getElem?_eq_getElem hj] at this
/-- The peaks that RangeOf tells. -/
def ofL (l : List HeadV) : List PeakV := if headsB l = true then ofP l l.length else []
theorem ofL_len (l : List HeadV) : (ofL l).length ≤ 20 := by
  unfold ofL
  split
  · rename_i h
    have h1 := heads_len h
    have h2 := (ofP_ok (heads_at h) h1 l.length (Nat.le_refl _)).2.2
    omega
  · exact Nat.zero_le _

def RofPost (l : List HeadV) (w : World) (e : Ending) (w' : World) : Prop := ∃ v, e = .returned v ∧ Pks w.heap.size v (ofL l) w' ∧ Below w.heap.size w w'
theorem of_no {l : List HeadV} {w w' : World} (h : headsB l = false) (hb : Below w.heap.size w w') : RofPost l w (.returned (.slice none 0 0)) w' := ⟨_, rfl, .inl ⟨rfl, by rw [ofL, h]; rfl⟩, hb⟩
theorem of_yes {l : List HeadV} {w w' : World} {v : Value} (h : headsB l = true) (hr : PRow w.heap.size v (ofP l l.length) w') (hb : Below w.heap.size w w') : RofPost l w (.returned v) w' := ⟨_, rfl, .inr (by rw [ofL, if_pos h]; exact PBk.frow hr), hb⟩

end Go.Proofs.YtialhnocknogpaaGreatDoor

set_option linter.unusedVariables false
namespace Go.Proofs.YtialhnocknogpaaGreatDoor
open Go.RowKit Go.Deep

/-- The stack behind m leaves, the first node first. -/
def stS (l : List HeadV) (x m : Nat) : List NodeV := (stkN (leafF l) x m).reverse
theorem stS_step (l : List HeadV) (x m : Nat) : addS (stS l x m) (leafF l m, decide (m = x)) = stS l x (m + 1) := by simp [addS, stS, stkN]
theorem noteS_step (l : List HeadV) (x m : Nat) : notesN (leafF l) x m ++ noteS (stS l x m) (leafF l m, decide (m = x)) = notesN (leafF l) x (m + 1) := by simp [noteS, stS, notesN]
theorem stS_fst (l : List HeadV) (x m : Nat) : (stS l x m).map Prod.fst = ofP l m := by rw [stS, List.map_reverse, stk_ofP, List.reverse_reverse]
theorem stS_len (l : List HeadV) (x m : Nat) : (stS l x m).length = (ofP l m).length := by rw [← stS_fst l x m, List.length_map]
theorem noteN_len (a b : NodeV) : (noteN a b).length ≤ 2 := by
  unfold noteN
  rw [List.length_append]
  split <;> split <;> simp
theorem noteR_len : ∀ (r : List NodeV) (p : NodeV), (noteR r p).length ≤ 2 * r.length
  | [], p => by simp [noteR]
  | q :: r, p => by
    rw [noteR]
    split
    · have h1 := noteN_len q p
      have h2 := noteR_len r (bothN q p)
      rw [List.length_append, List.length_cons]
      omega
    · simp
theorem notes_len {l : List HeadV} (h : ∀ i, i < l.length → headOkB (l.getD i default) = true) (hl : l.length ≤ 20) (x : Nat) : ∀ m, m ≤ l.length → (notesN (leafF l) x m).length ≤ 40 * m
  | 0, _ => Nat.le_refl _
  | m + 1, hm => by
    have h1 := notes_len h hl x m (by omega)
    have h2 := noteR_len (stkN (leafF l) x m) (leafF l m, decide (m = x))
    have h3 := (ofP_ok h hl m (by omega)).2.2
    have h4 := stS_len l x m
    rw [stS, List.length_reverse] at h4
    rw [notesN, List.length_append]
    omega
theorem addR_lenN : ∀ (r : List PeakV) (p : PeakV), (addR r p).length ≤ r.length + 1
  | [], p => by simp [addR]
  | q :: r, p => by
    rw [addR]
    split
    · have := addR_lenN r (bothP q p)
      rw [List.length_cons]
      omega
    · simp
theorem ofP_len_le (l : List HeadV) : ∀ k, (ofP l k).length ≤ k
  | 0 => Nat.le_refl _
  | k + 1 => by
    have h1 := ofP_len_le l k
    have h2 := addR_lenN (ofP l k).reverse (leafP (l.getD k default))
    rw [ofP, addP, List.length_reverse]
    rw [List.length_reverse] at h2
    omega
/-- What RangeProof tells. -/
def proofL (l : List HeadV) (x : Int) : List PeakV × List PeakV := if headsB l = true ∧ 0 ≤ x ∧ x < (l.length : Int) then (ofP l l.length, notesN (leafF l) x.toNat l.length) else ([], [])
def PrfPost (l : List HeadV) (x : Int) (w : World) (e : Ending) (w' : World) : Prop := ∃ vp vs, e = .returned (.agg #[vp, vs]) ∧ Pks w.heap.size vp (proofL l x).1 w' ∧ Pks w.heap.size vs (proofL l x).2 w' ∧ Below w.heap.size w w'
/-- The two lists of an answer are apart. -/
def Dis (e : Ending) : Prop := ∀ vp vs b, e = .returned (.agg #[vp, vs]) → blkOf vp b → ¬ blkOf vs b
theorem prf_no {l : List HeadV} {x : Int} {w w' : World} (h : ¬ (headsB l = true ∧ 0 ≤ x ∧ x < (l.length : Int))) (hb : Below w.heap.size w w') : PrfPost l x w (.returned (.agg #[.slice none 0 0, .slice none 0 0])) w' ∧ Dis (.returned (.agg #[.slice none 0 0, .slice none 0 0])) := by
  have e : proofL l x = ([], []) := by rw [proofL, if_neg h]
  refine ⟨⟨_, _, rfl, .inl ⟨rfl, by rw [e]⟩, .inl ⟨rfl, by rw [e]⟩, hb⟩, ?_⟩
  intro vp vs b he h1 h2
  simp only [Ending.returned.injEq, Value.agg.injEq, Array.mk.injEq, List.cons.injEq, and_true] at he
  rw [← he.1] at h1
  exact h1
theorem pks_own {B : Nat} {v : Value} {l : List PeakV} {w : World} (h : w.ownsRow B 54 3 v l.length (l.flatMap pEnc)) : Pks B v l w := by
  rcases h.2 with ⟨rfl, h0⟩ | ⟨g, cap, cur, rfl, _⟩
  · exact .inl ⟨rfl, List.eq_nil_of_length_eq_zero h0⟩
  · exact .inr (PBk.frow (FRow.of h rfl))
theorem prf_yes {l : List HeadV} {X : Nat} {w w' : World} {vp vs : Value} {B : Nat} (hk : headsB l = true) (hx : X < l.length) (hp : w'.ownsRow B 54 3 vp (ofP l l.length).length ((ofP l l.length).flatMap pEnc)) (hs : w'.ownsRow w.heap.size 54 3 vs (notesN (leafF l) X l.length).length ((notesN (leafF l) X l.length).flatMap pEnc)) (hB : w.heap.size ≤ B) (hv : ∀ b, vs.ownBlock = some b → b < B) (hb : Below w.heap.size w w') : PrfPost l (X : Int) w (.returned (.agg #[vp, vs])) w' ∧ Dis (.returned (.agg #[vp, vs])) := by
  have e : proofL l (X : Int) = (ofP l l.length, notesN (leafF l) X l.length) := by rw [proofL, if_pos ⟨hk, by omega, by omega⟩]; rfl
  have hp' := pks_own hp
  refine ⟨⟨_, _, rfl, by rw [e]; exact hp'.mono hB, by rw [e]; exact pks_own hs, hb⟩, ?_⟩
  intro vp' vs' b he h1 h2
  simp only [Ending.returned.injEq, Value.agg.injEq, Array.mk.injEq, List.cons.injEq, and_true] at he
  obtain ⟨rfl, rfl⟩ := he
  have h3 := (hp'.blk h1).2
  have h4 : vs.ownBlock = some b := by
    cases vs with
    | slice a n c =>
      cases a with
      | none => exact absurd h2 (by simp [blkOf])
      | some a => simpa [blkOf, Value.ownBlock] using h2
    | _ => exact absurd h2 (by simp [blkOf])
  have := hv b h4
  omega
/-- While the peaks are laid: B blocks stood ahead of it. -/
structure PkW (w0 wB wr : World) (gp : Nat) (vp vs : Value) (ps : List PeakV) : Prop where
  k : CBk wr gp 27 #[vp, vs]
  row : wr.ownsRow wB.heap.size 54 3 vp ps.length (ps.flatMap pEnc)
  same : ∀ c, c < wB.heap.size → c ≠ gp → wr.heap[c]? = wB.heap[c]?
  b : Below w0.heap.size w0 wr
  size : wB.heap.size ≤ wr.heap.size
  g : w0.heap.size ≤ gp
  lt : gp < wB.heap.size
theorem PkW.call {w0 wB wr w' : World} {gp : Nat} {vp vs : Value} {ps : List PeakV} (h : PkW w0 wB wr gp vp vs ps) (hb : Below wr.heap.size wr w') : PkW w0 wB w' gp vp vs ps :=
  ⟨h.k.call hb, ownE_keep h.row (fun b _ hlt => hb.block b hlt), fun c hc hne => (hb.block c (Nat.lt_of_lt_of_le hc h.size)).trans (h.same c hc hne), h.b.trans (hb.mono h.b.size), Nat.le_trans h.size hb.size, h.g, h.lt⟩
theorem PkW.at {w0 wB wr : World} {gp : Nat} {vp vs : Value} {ps : List PeakV} (h : PkW w0 wB wr gp vp vs ps) {c j : Nat} (hc : c < wB.heap.size) (hne : c ≠ gp) : wr.cell? ⟨c, j, none⟩ = wB.cell? ⟨c, j, none⟩ := World.cell?_of_block (a := ⟨c, j, none⟩) (h.same c hc hne)
theorem PkW.keep4 {w0 wB wr w4 : World} {gp : Nat} {vp vs : Value} {ps : List PeakV} (h : PkW w0 wB wr gp vp vs ps) (hb : Below wB.heap.size wr w4) : w4.cell? ⟨gp, 0, none⟩ = some vp ∧ w4.frozen? ⟨gp, 0, none⟩ = false := by
  have h1 : CBk w4 gp 27 #[vp, vs] := h.k.below hb h.lt
  exact ⟨h1.cell 0, h1.frozen 0⟩
theorem PkW.laid {w0 wB wr w4 : World} {gp g4 c4 : Nat} {vp vs : Value} {ps : List PeakV} {t : PeakV} (h : PkW w0 wB wr gp vp vs ps) (hown : w4.ownsRow wB.heap.size 54 3 (.slice (some ⟨g4, 0, none⟩) (ps.length + 1) c4) (ps.length + 1) (ps.flatMap pEnc ++ pEnc t)) (hb : Below wB.heap.size wr w4) (hw : w0.heap.size ≤ wB.heap.size) : PkW w0 wB (w4.setCell ⟨gp, 0, none⟩ (.slice (some ⟨g4, 0, none⟩) (ps.length + 1) c4)) gp (.slice (some ⟨g4, 0, none⟩) (ps.length + 1) c4) vs (ps ++ [t]) := by
  have h1 : CBk w4 gp 27 #[vp, vs] := h.k.below hb h.lt
  have hown' : w4.ownsRow wB.heap.size 54 3 (.slice (some ⟨g4, 0, none⟩) (ps.length + 1) c4) (ps ++ [t]).length ((ps ++ [t]).flatMap pEnc) := by
    rw [List.length_append, List.flatMap_append]
    simpa using hown
  refine ⟨h1.set 0 _, own_set hown' h1 ftne, fun c hc hne => ?_, (h.b.trans (hb.mono hw)).setCell (p := ⟨gp, 0, none⟩) h.g _, by simpa using Nat.le_trans h.size hb.size, h.g, h.lt⟩
  rw [← h.same c hc hne, ← hb.block c hc]
  simp [World.setCell, Array.getElem?_modify, Ne.symm hne]
theorem PkW.start {w0 wB : World} {gp : Nat} {vs : Value} {ss : List PeakV} (h : PfW w0 wB gp vs ss) : PkW w0 wB wB gp (.slice none 0 0) vs [] :=
  ⟨h.k, ⟨rfl, .inl ⟨rfl, rfl⟩⟩, fun _ _ _ => rfl, h.b, Nat.le_refl _, h.lo, h.k.lt⟩
/-- The answer's block, ahead of the last store. -/
theorem PkW.last {w1 wB wr : World} {gp g4 : Nat} {vp vs : Value} {ps : List PeakV} {cs : Array Value} (h : PkW w1 wB wr gp vp vs ps) (h4 : CBk w1 g4 27 cs) : CBk wr g4 27 cs := h4.call h.b
theorem PkW.fin {w w1 wB wr : World} {gp g4 : Nat} {vp vs : Value} {ps ss : List PeakV} (h : PkW w1 wB wr gp vp vs ps) (hs : PfW w1 wB gp vs ss) (h4 : CBk w1 g4 27 #[.slice none 0 0, .slice none 0 0]) (hb : Below w.heap.size w w1) (hw : w.heap.size ≤ g4) :
    CBk ((wr.setCell ⟨g4, 0, none⟩ vp).setCell ⟨g4, 1, none⟩ vs) g4 27 #[vp, vs] ∧ ((wr.setCell ⟨g4, 0, none⟩ vp).setCell ⟨g4, 1, none⟩ vs).ownsRow wB.heap.size 54 3 vp ps.length (ps.flatMap pEnc) ∧ ((wr.setCell ⟨g4, 0, none⟩ vp).setCell ⟨g4, 1, none⟩ vs).ownsRow w.heap.size 54 3 vs ss.length (ss.flatMap pEnc) ∧ w.heap.size ≤ wB.heap.size ∧ (∀ b, vs.ownBlock = some b → b < wB.heap.size) ∧ Below w.heap.size w ((wr.setCell ⟨g4, 0, none⟩ vp).setCell ⟨g4, 1, none⟩ vs) := by
  have h5 : CBk wr g4 27 #[.slice none 0 0, .slice none 0 0] := h4.call h.b
  have h6 := h5.set 0 vp
  have hrs : wr.ownsRow w1.heap.size 54 3 vs ss.length (ss.flatMap pEnc) := ownE_keep hs.row (fun b hv hlt => by
    obtain ⟨⟨cur, hc⟩, _⟩ := ownE_is hs.row hv
    exact h.same b hlt (cbk_ne hc hs.k (Ne.symm ftne)))
  refine ⟨h6.set 1 vs, own_set (own_set h.row h5 ftne) h6 ftne, ownE_mono (own_set (own_set hrs h5 ftne) h6 ftne) hb.size, Nat.le_trans hb.size hs.b.size, fun b hv => ?_, ?_⟩
  · obtain ⟨⟨cur, hc⟩, _⟩ := ownE_is hs.row hv
    exact hc.lt
  · exact ((hb.trans (h.b.mono hb.size)).setCell (p := ⟨g4, 0, none⟩) hw _).setCell (p := ⟨g4, 1, none⟩) hw _
end Go.Proofs.YtialhnocknogpaaGreatDoor

set_option linter.unusedVariables false
namespace Go.Proofs.YtialhnocknogpaaGreatDoor
open Go.RowKit Go.Deep

def PlacePost (ps : List PeakV) (a : Int) (e : Ending) : Prop := (∃ k, placeP ps a = some k ∧ e = .returned (.tuple #[.int .i64 (k : Int), .int .i64 (cntTo ps k)])) ∨ (placeP ps a = none ∧ ∃ x, e = .returned (.tuple #[.int .i64 (-1), .int .i64 x]))
set_option maxHeartbeats 2000000 in
set_option maxRecDepth 100000 in
theorem specL5Peak (g n cap : Nat) (ps : List PeakV) (a : Int) (w : World) (h : AtP w g ps) (hn : n = ps.length) (hm : n ≤ 1048576) (hr : rangeOkB ps = true) :
    Calls Tryz.prog 70 #[.slice (some ⟨g, 0, none⟩) n cap, .int .i64 a] w fun e w' => PlacePost ps a e ∧ w = w' := by
  have HA : Hid (AtP w g ps) := h
  have HN : Hid (n = ps.length) := hn
  have HR : Hid (rangeOkB ps = true) := hr
  have hl20 := range_len hr
  have HY : Hid (∀ k e, placeP ps a = some k → e = .returned (.tuple #[.int .i64 (k : Int), .int .i64 (cntTo ps k)]) → PlacePost ps a e) := fun k e h1 h2 => .inl ⟨k, h1, h2⟩
  have HX : Hid (∀ x e, placeP ps a = none → e = .returned (.tuple #[.int .i64 (-1), .int .i64 x]) → PlacePost ps a e) := fun x e h1 h2 => .inr ⟨h1, x, h2⟩
  generalize PlacePost ps a = Q at HY HX ⊢
  clear h hn hr
  go_enter Tryz.func70, Tryz.ntmps70
  go_wp2_with fail
  go_loopw [6, 7] (fun f i wr => ∃ k : Nat, k ≤ n ∧ i = .int .i64 (k : Int) ∧ f = .int .i64 (cntTo ps k) ∧ Hid (w = wr) ∧ Hid (∀ j, j < k → ¬ a < cntTo ps (j + 1))) (fun _ i _ => n - (intOf i).toNat)
  case atStart => exact ⟨0, by omega, rfl, rfl, rfl, fun j hj => by omega⟩
  case round =>
    obtain ⟨k, hk, rfl, rfl, HW, HQ⟩ := hrel
    by_cases hlt : k < n
    · have hkl : k < ps.length := by rw [← HN.out]; exact hlt
      have HAr : Hid (AtP wr g ps) := by rw [← HW.out]; exact HA.out
      have q2 := AtP.c2 HAr.out k hkl
      have lk : (k : Int) < (n : Int) := by omega
      have lk0 : (0 : Int) ≤ (k : Int) := by omega
      have wk : IntKind.i64.wrap ((k : Int) + 1) = (k : Int) + 1 := by rw [IntKind.wrap_i64]; omega
      have HK1 : Hid (k + 1 ≤ n) := hlt
      have hri := rangeOk_at HR.out k hkl
      have hci := cnt_in HR.out k (by omega)
      have hw1 : IntKind.i64.wrap (cntTo ps k + (ps.getD k default).count) = cntTo ps k + (ps.getD k default).count := by rw [IntKind.wrap_i64]; omega
      have HC1 : Hid (cntTo ps (k + 1) = cntTo ps k + (ps.getD k default).count) := rfl
      have HYk : Hid (∀ e, a < cntTo ps (k + 1) → e = .returned (.tuple #[.int .i64 (k : Int), .int .i64 (cntTo ps k)]) → Q e) := fun e h1 h2 => HY.out k e (place_at hkl h1 HQ.out) h2
      have HQ2 : Hid (¬ a < cntTo ps (k + 1) → ∀ j, j < k + 1 → ¬ a < cntTo ps (j + 1)) := by
        intro hh j hj
        rcases Nat.lt_or_ge j k with h' | h'
        · exact HQ.out j h'
        · obtain rfl : j = k := by omega
          exact hh
      clear HQ hkl HAr hri hci
      generalize (ps.getD k default).count = c at q2 hw1 HC1
      generalize cntTo ps k = ck at hw1 HC1 HYk ⊢
      by_cases hin : a < ck + c
      · have HV : Hid (∀ e, e = .returned (.tuple #[.int .i64 (k : Int), .int .i64 ck]) → Q e) := fun e he => HYk.out e (by rw [HC1.out]; exact hin) he
        clear HY HX HYk HQ2 HC1
        go_wp2_with fail
        go_ret2
        exact ⟨HV.out _ rfl, HW.out⟩
      · have HQ3 : Hid (∀ j, j < k + 1 → ¬ a < cntTo ps (j + 1)) := HQ2.out (by rw [HC1.out]; exact hin)
        clear HYk HQ2
        go_wp2_with fail
        go_roundw
        case rel => exact ⟨k + 1, HK1.out, by go_num, by rw [HC1.out], HW, HQ3⟩
        case measure => have := HK1.out; simp [intOf]; omega
    · obtain rfl : k = n := by omega
      have HV : Hid (∀ x e, e = .returned (.tuple #[.int .i64 (-1), .int .i64 x]) → Q e) := fun x e he => HX.out x e (place_no (fun j hj => HQ.out j (by rw [HN.out]; exact hj))) he
      generalize cntTo ps k = ck at ⊢
      clear HY HX HQ
      go_wp2_with fail
      go_ret2
      exact ⟨HV.out _ _ rfl, HW.out⟩

theorem results_cell_tmp2 {fn : Func} {p u v : Tmp} {ty : TypeId} (h : fn.results = #[.cell p ty, .tmp u, .tmp v]) (tmps : Array Value) (P : Program) (w : World) :
    (results fn tmps).run P w =
      ((asAddr (tmps.getD p undef)).run P w).andThen fun a w₁ => ((loadVar ty a).run P w₁).andThen fun x w₂ => .ok (.tuple #[x, tmps.getD u undef, tmps.getD v undef]) w₂ := by
  simp only [results, h]
  simp [Sem.run_bind, Result.andThen]
theorem results_row_tmp2 {P : Program} {fn : Func} {p u v : Tmp} {ty : TypeId} (h : fn.results = #[.cell p ty, .tmp u, .tmp v]) (tmps : Array Value) (w : World) (g : Nat) (t : TypeId) (cs : Array Value) (fr : Nat × Nat) (d : TypeDesc)
    (hp : tmps.getD p undef = .pointer (some ⟨g, 0, none⟩)) (hg : w.heap[g]? = some (.cells cs t fr))
    (hu : P.underlying ty = some d) (hd : (match d with | .struct _ | .array _ _ => true | _ => false) = true) (hi : (P.info? ty).map (·.size) = some cs.size) :
    (results fn tmps).run P w = .ok (.tuple #[.agg cs, tmps.getD u undef, tmps.getD v undef]) w := by
  rw [results_cell_tmp2 h, hp]
  simp [asAddr, run_loadVar_row w g t ty cs fr d hg hu hd hi, Result.andThen]

/-- What stands while a leaf is led up: the peak so far, the place of the answer. -/
structure WalkW (w wr : World) (g3 : Nat) (q : PeakV) : Prop where
  p : CBk wr g3 54 #[.string q.sum, .int .i64 q.work, .int .i64 q.count]
  r : CBk wr (g3 + 1) 54 #[.string ⟨#[]⟩, .int .i64 0, .int .i64 0]
  lo : w.heap.size ≤ g3
  b : Below w.heap.size w wr
theorem WalkW.call {w wr w' : World} {g3 : Nat} {q : PeakV} (h : WalkW w wr g3 q) (hb : Below wr.heap.size wr w') : WalkW w w' g3 q :=
  ⟨h.p.call hb, h.r.call hb, h.lo, h.b.trans (hb.mono h.b.size)⟩
theorem WalkW.store {w wr : World} {g3 : Nat} {q : PeakV} (h : WalkW w wr g3 q) (x : PeakV) : WalkW w (((wr.setCell ⟨g3, 0, none⟩ (.string x.sum)).setCell ⟨g3, 1, none⟩ (.int .i64 x.work)).setCell ⟨g3, 2, none⟩ (.int .i64 x.count)) g3 x := by
  have h2 := h.lo
  exact ⟨h.p.set3, ((h.r.other (by omega) _).other (by omega) _).other (by omega) _, h2, ((h.b.setCell (p := ⟨g3, 0, none⟩) (by show w.heap.size ≤ g3; omega) _).setCell (p := ⟨g3, 1, none⟩) (by show w.heap.size ≤ g3; omega) _).setCell (p := ⟨g3, 2, none⟩) (by show w.heap.size ≤ g3; omega) _⟩
theorem WalkW.back {w wr : World} {g3 : Nat} {q : PeakV} (h : WalkW w wr g3 q) (x : PeakV) : Below w.heap.size w (((wr.setCell ⟨g3 + 1, 0, none⟩ (.string x.sum)).setCell ⟨g3 + 1, 1, none⟩ (.int .i64 x.work)).setCell ⟨g3 + 1, 2, none⟩ (.int .i64 x.count)) := by
  have h2 := h.lo
  exact ((h.b.setCell (p := ⟨g3 + 1, 0, none⟩) (by show w.heap.size ≤ g3 + 1; omega) _).setCell (p := ⟨g3 + 1, 1, none⟩) (by show w.heap.size ≤ g3 + 1; omega) _).setCell (p := ⟨g3 + 1, 2, none⟩) (by show w.heap.size ≤ g3 + 1; omega) _
/-- What the walk of a leaf answers. -/
def WalkPost (lf : PeakV) (a : Nat) (ss : List PeakV) (n : Nat) (e : Ending) : Prop := (∃ q l, walkTo lf a ss n = some (q, l) ∧ e = .returned (.tuple #[peakVal q, .int .i64 l, .bool true])) ∨ (walkTo lf a ss n = none ∧ ∃ q, e = .returned (.tuple #[peakVal q, .int .i64 0, .bool false]))

end Go.Proofs.YtialhnocknogpaaGreatDoor

set_option linter.unusedVariables false
namespace Go.Proofs.YtialhnocknogpaaGreatDoor
open Go.RowKit Go.Deep

theorem tree_ok {l : List HeadV} (h : ∀ i, i < l.length → headOkB (l.getD i default) = true) (hl : l.length ≤ 20) : ∀ (k b : Nat), b + 2 ^ k ≤ l.length → peakOkB (treeT (leafF l) b k) = true
  | 0, b, hb => by
    rw [treeT]
    exact fine_ok (fine_leaf (h b (by simp at hb; omega))) (by show (1 : Int) ≤ 20; decide)
  | k + 1, b, hb => by
    have e1 : 2 ^ (k + 1) = 2 ^ k + 2 ^ k := by rw [Nat.pow_succ']; omega
    have hp : 0 < 2 ^ k := Nat.two_pow_pos _
    have h1 := tree_ok h hl k b (by omega)
    have h2 := tree_ok h hl k (b + 2 ^ k) (by omega)
    have c1 := treeT_cnt (leafF_cnt l) k b
    have c2 := treeT_cnt (leafF_cnt l) k (b + 2 ^ k)
    rw [treeT]
    generalize treeT (leafF l) b k = p at h1 c1
    generalize treeT (leafF l) (b + 2 ^ k) k = q at h2 c2
    have i1 := peakOk_in h1
    have i2 := peakOk_in h2
    have hs := isSum_both p q
    simp only [peakOkB, hs, Bool.true_and, Bool.and_eq_true, decide_eq_true_eq]
    show (1 ≤ p.count + q.count ∧ p.count + q.count ≤ 20) ∧ p.count + q.count ≤ p.work + q.work ∧ p.work + q.work ≤ (p.count + q.count) * 8
    generalize 2 ^ k = P at e1 hb c1 c2
    omega
theorem rowT_snoc (f : Nat → PeakV) : ∀ (m a k : Nat), rowT f a k (m + 1) = rowT f a k m ++ [treeT f (a + m * 2 ^ k) k]
  | 0, a, k => by simp [rowT]
  | m + 1, a, k => by
    have e1 : a + 2 ^ k + m * 2 ^ k = a + (m + 1) * 2 ^ k := by rw [Nat.add_mul, Nat.one_mul]; omega
    rw [rowT, rowT_snoc f m (a + 2 ^ k) k, e1]
    rfl
/-- Two of a row become one of the row above it. -/
theorem row_two (f : Nat → PeakV) (a k i N : Nat) (h : 2 * i + 1 < N) : rowT f a (k + 1) (i + 1) = rowT f a (k + 1) i ++ [bothP ((rowT f a k N).getD (2 * i) default) ((rowT f a k N).getD (2 * i + 1) default)] := by
  have e1 : 2 ^ (k + 1) = 2 ^ k + 2 ^ k := by rw [Nat.pow_succ']; omega
  have e2 : a + i * 2 ^ (k + 1) = a + 2 * i * 2 ^ k := by rw [e1, Nat.mul_add, show 2 * i = i + i from by omega, Nat.add_mul]
  have e3 : a + 2 * i * 2 ^ k + 2 ^ k = a + (2 * i + 1) * 2 ^ k := by rw [Nat.add_mul (2 * i) 1, Nat.one_mul]; omega
  rw [rowT_snoc, rowT_at f N a k (2 * i) (by omega), rowT_at f N a k (2 * i + 1) (by omega), treeT, e2, e3]
theorem row_ok {l : List HeadV} (h : ∀ i, i < l.length → headOkB (l.getD i default) = true) (hl : l.length ≤ 20) {a k N z : Nat} (hN : a + N * 2 ^ k ≤ l.length) (hz : z < N) : peakOkB ((rowT (leafF l) a k N).getD z default) = true := by
  rw [rowT_at _ _ _ _ _ hz]
  refine tree_ok h hl k _ ?_
  have h1 : (z + 1) * 2 ^ k ≤ N * 2 ^ k := Nat.mul_le_mul_right _ hz
  rw [Nat.add_mul, Nat.one_mul] at h1
  generalize 2 ^ k = P at *
  generalize z * P = Z at *
  generalize N * P = M at *
  omega
def lenV : Value → Nat
  | .slice _ n _ => n
  | _ => 0
/-- What stands ahead of a row's round: the steps so far, the row. -/
structure TreeW (w wr : World) (v : Value) (o : List PeakV) (g6 : Nat) (ps : List PeakV) : Prop where
  row : PRow w.heap.size v o wr
  at_ : AtP wr g6 ps
  far : v.ownBlock ≠ some g6
  b : Below w.heap.size w wr
theorem prow_own {B : Nat} {v : Value} {l : List PeakV} {w : World} (h : PRow B v l w) : w.ownsRow B 54 3 v l.length (l.flatMap pEnc) := h.2
theorem AtP.keepB {w w' : World} {g : Nat} {l : List PeakV} (h : AtP w g l) (hk : w'.heap[g]? = w.heap[g]?) (hs : w.heap.size ≤ w'.heap.size) : AtP w' g l :=
  ⟨Nat.lt_of_lt_of_le h.1 hs, fun i j hi hj => (World.cell?_of_block (a := ⟨g, i * 3 + j, none⟩) hk).trans (h.2 i j hi hj)⟩

set_option maxHeartbeats 8000000 in
set_option maxRecDepth 100000 in
theorem specL5Tree (g n cap X J a : Nat) (l : List HeadV) (w : World) (hA : AtP w g (rowT (leafF l) a 0 (2 ^ J))) (hn : n = 2 ^ J) (hX : X < 2 ^ J) (hal : a + 2 ^ J ≤ l.length) (hl : l.length ≤ 20) (hok : ∀ i, i < l.length → headOkB (l.getD i default) = true) :
    Calls Tryz.prog 71 #[.slice (some ⟨g, 0, none⟩) n cap, .int .i64 (X : Int)] w fun e w' => ∃ v, e = .returned v ∧ PRow w.heap.size v (treeS J (rowT (leafF l) a 0 (2 ^ J)) X) w' ∧ Below w.heap.size w w' := by
  obtain ⟨i0, hi, hz0, hz1, hz2⟩ := info3 infoPeak
  have T0 : Hid (TreeW w (w.alloc (.cells #[] 54)) (.slice (some ⟨w.heap.size, 0, none⟩) 0 0) [] g (rowT (leafF l) a 0 n)) := by
    rw [hn]
    have hb := (Below.refl w.heap.size w).alloc (Nat.le_refl _) (.cells #[] 54)
    refine ⟨frow_new pEnc 54 3 w, hA.below hb hA.1, ?_, hb⟩
    have := hA.1
    simp [Value.ownBlock]
    omega
  have HOK : Hid (∀ k N z, a + N * 2 ^ k ≤ l.length → z < N → peakOkB ((rowT (leafF l) a k N).getD z default) = true) := fun k N z h1 h2 => row_ok hok hl h1 h2
  have HAL : Hid (a + 2 ^ J ≤ l.length ∧ l.length ≤ 20) := ⟨hal, hl⟩
  have HN : Hid (n = 2 ^ J) := hn
  have HX : Hid (X < n) := by show _ < _; omega
  have HT : Hid ([] ++ treeS J (rowT (leafF l) a 0 n) X = treeS J (rowT (leafF l) a 0 (2 ^ J)) X) := by rw [hn]; rfl
  generalize treeS J (rowT (leafF l) a 0 (2 ^ J)) X = T at HT ⊢
  obtain ⟨Q, hQ⟩ : ∃ Q : Ending → World → Prop, Q = fun e w' => ∃ v, e = .returned v ∧ PRow w.heap.size v T w' ∧ Below w.heap.size w w' := ⟨_, rfl⟩
  have HQ : Hid (∀ (v : Value) (w' : World), PRow w.heap.size v T w' → Below w.heap.size w w' → Q (.returned v) w') := fun v w' h1 h2 => by rw [hQ]; exact ⟨v, rfl, h1, h2⟩
  show Calls _ _ _ _ (fun e w' => ∃ v, e = .returned v ∧ PRow w.heap.size v T w' ∧ Below w.heap.size w w')
  rw [← hQ]
  clear hQ hA hn hX hal hl hok
  go_enter Tryz.func71, Tryz.ntmps71
  go_wp2_with fail
  generalize w.alloc (.cells #[] 54) = W0 at T0 ⊢
  go_loopw [1, 5, 6] (fun at5 out row wr => ∃ (k j y N g6 c6 g5 m5 c5 : Nat) (o : List PeakV), at5 = .int .i64 (y : Int) ∧ out = .slice (some ⟨g5, 0, none⟩) m5 c5 ∧ row = .slice (some ⟨g6, 0, none⟩) N c6 ∧ Hid (k + j = J ∧ N = 2 ^ j ∧ y < N ∧ o.length = k) ∧ Hid (TreeW w wr (.slice (some ⟨g5, 0, none⟩) m5 c5) o g6 (rowT (leafF l) a k N)) ∧ Hid (o ++ treeS j (rowT (leafF l) a k N) y = T)) (fun _ _ row _ => lenV row)
  case atStart => exact ⟨0, J, X, n, g, cap, _, _, _, [], rfl, rfl, rfl, ⟨by omega, HN.out, HX.out, rfl⟩, T0, HT⟩
  case round =>
    clear T0 HT
    obtain ⟨k, j, y, N, g6, c6, g5, m5, c5, o, rfl, rfl, rfl, HK, TW, HT⟩ := hrel
    cases j with
    | zero =>
      have HT2 : Hid (o = T) := by
        have := HT.out
        rwa [treeS, List.append_nil] at this
      obtain ⟨M, hM⟩ : ∃ M, M = N := ⟨_, rfl⟩
      have hN1 : N = 1 := HK.out.2.1
      have hn1 : ¬ (1 : Int) < (N : Int) := by omega
      have hn2 : ¬ 1 < N := by omega
      have HV : Hid (Q (.returned (.slice (some ⟨g5, 0, none⟩) m5 c5)) wr) := HQ.out _ wr (by rw [← HT2.out]; exact TW.out.row) TW.out.b
      clear HT HK TW hN1 hM
      go_wp2_with fail
      exact HV.out
    | succ j =>
      obtain ⟨M, hM⟩ : ∃ M, M = 2 ^ j := ⟨_, rfl⟩
      obtain ⟨q, hq⟩ : ∃ q, q = y % 2 := ⟨_, rfl⟩
      obtain ⟨z, hz⟩ : ∃ z, z = y + 1 - q * 2 := ⟨_, rfl⟩
      have hN2 : N = 2 * M := by rw [hM, HK.out.2.1, Nat.pow_succ']
      have hMl : M ≤ 20 ∧ N ≤ 20 ∧ a + N * 2 ^ k ≤ l.length ∧ y < N := by
        have h1 := HAL.out
        have h2 : N * 2 ^ k = 2 ^ J := by rw [HK.out.2.1, Nat.mul_comm, ← Nat.pow_add, HK.out.1]
        have h3 : N * 1 ≤ N * 2 ^ k := Nat.mul_le_mul_left _ (Nat.two_pow_pos k)
        have h4 := HK.out.2.2.1
        omega
      have HMl : Hid (M ≤ 20 ∧ N ≤ 20 ∧ a + N * 2 ^ k ≤ l.length ∧ y < N) := hMl
      have HN2 : Hid (N = 2 * M ∧ M = 2 ^ j ∧ k + (j + 1) = J) := ⟨hN2, hM, HK.out.1⟩
      have hM0 : 0 < M := by rw [hM]; exact Nat.two_pow_pos j
      have hq2 : q < 2 := by omega
      have hzN : z < N := by omega
      have HS : Hid (treeS (j + 1) (rowT (leafF l) a k N) y = (rowT (leafF l) a k N).getD z default :: treeS j (rowT (leafF l) a (k + 1) M) (y / 2)) := by
        show _ = _
        rw [treeS, ← hq, ← hz, hN2, upP_row]
      have hn1 : (1 : Int) < (N : Int) := by omega
      have hr1 : Int.tmod (y : Int) 2 = (q : Int) := by rw [hq]; rfl
      have hr2 : (y : Int) % 2 = (q : Int) := by omega
      have hw1 : IntKind.i64.wrap ((y : Int) + 1) = (y : Int) + 1 := by rw [IntKind.wrap_i64]; omega
      have hw2 : IntKind.i64.wrap ((q : Int) * 2) = (q : Int) * 2 := by rw [IntKind.wrap_i64]; omega
      have hw3 : IntKind.i64.wrap ((y : Int) + 1 - (q : Int) * 2) = (z : Int) := by rw [IntKind.wrap_i64]; omega
      have hwq : IntKind.i64.wrap (q : Int) = (q : Int) := by rw [IntKind.wrap_i64]; omega
      have lz0 : (0 : Int) ≤ (z : Int) := by omega
      have lz1 : (z : Int) < (N : Int) := by omega
      have hrl : z < (rowT (leafF l) a k N).length := by rw [rowT_len]; exact hzN
      have c0 := AtP.c0 TW.out.at_ z hrl
      have c1 := AtP.c1 TW.out.at_ z hrl
      have c2 := AtP.c2 TW.out.at_ z hrl
      have HOK1 : Hid (o.length = k) := HK.out.2.2.2
      clear hM hz hq hq2 HK hN2 hrl hMl
      generalize (rowT (leafF l) a k N).getD z default = s at c0 c1 c2 HS
      have HOL : Hid (o.length = m5) := by
        have h1 := TW.out.row
        obtain ⟨⟨g', c', hv⟩, _⟩ := h1
        simp only [Value.slice.injEq] at hv
        exact hv.2.1.symm
      have HO20 : Hid (o.length ≤ 1048576) := by
        show _ ≤ _
        have h1 := HAL.out
        have h2 : J < 2 ^ J := Nat.lt_two_pow_self
        have h3 := HN2.out.2.2
        have h4 := HOK1.out
        omega
      have hx1 : m5 + 1 ≤ maxLen := by have h1 := HOL.out; have h2 := HO20.out; unfold maxLen; omega
      have hx2 : (m5 + 1) * 32 ≤ 140737488355328 := by have h1 := HOL.out; have h2 := HO20.out; omega
      have hu := pEnc_one s
      have hsz := TW.out.b.size
      have HRW : Hid (wr.ownsRow w.heap.size 54 3 (.slice (some ⟨g5, 0, none⟩) m5 c5) m5 (o.flatMap pEnc)) := by
        have h1 := prow_own TW.out.row
        rwa [HOL.out] at h1
      go_upto_region 5 with (at_builtin; refine wp_appN rfl _ _ 25 rfl w.heap.size 54 i0 (.agg #[.string ⟨#[]⟩, .int .i64 0, .int .i64 0]) 3 32 1 Tryz.underlying25 hi hz0 hz1 hz2 rfl (by decide) (by decide) _ _ _ rfl HRW.out (pEnc s) (by first | rfl | simp [Act.eval]) rfl hu hx1 hx2 hsz ?_; intro g7 c7 w7 hown7 hb7 hkeep7)
      have P7 : Hid (PRow w.heap.size (.slice (some ⟨g7, 0, none⟩) (m5 + 1) c7) (o ++ [s]) w7) := by
        refine FRow.of ?_ ?_
        · rw [List.flatMap_append]
          simpa using hown7
        · rw [List.length_append, HOL.out]; rfl
      have A7 : Hid (AtP w7 g6 (rowT (leafF l) a k N)) := TW.out.at_.keepB (hkeep7 g6 TW.out.at_.1 TW.out.far) hb7.size
      have B7 : Hid (Below w.heap.size w w7) := TW.out.b.trans hb7
      have HT7 : Hid ((o ++ [s]) ++ treeS j (rowT (leafF l) a (k + 1) M) (y / 2) = T) := by
        show _ = _
        rw [← HT.out, HS.out, List.append_assoc]
        rfl
      have HOK2 : Hid ((o ++ [s]).length = k + 1) := by show _ = _; rw [List.length_append, HOK1.out]; rfl
      generalize o ++ [s] = o7 at P7 HT7 HOK2
      clear hown7 hb7 hkeep7 TW c0 c1 c2 HRW hx1 hx2 hu hsz hr1 hr2 hw1 hw2 hw3 hwq lz0 lz1 HT HS HO20 HOL HOK1 hzN
      go_wp2_with fail
      have R8 : Hid ((w7.alloc (.cells #[] 54)).ownsRow w7.heap.size 54 3 (.slice (some ⟨w7.heap.size, 0, none⟩) 0 0) 0 ((rowT (leafF l) a (k + 1) 0).flatMap pEnc)) := (frow_new pEnc 54 3 w7).2
      have B8 : Hid (Below w7.heap.size w7 (w7.alloc (.cells #[] 54))) := (Below.refl _ w7).alloc (Nat.le_refl _) _
      have HM0 : Hid (0 < M) := hM0
      clear hM0 hn1
      generalize w7.alloc (.cells #[] 54) = W8 at R8 B8 ⊢
      go_loopw [7, 8] (fun up ii wr => ∃ (i e g8 c8 : Nat), ii = .int .i64 (e : Int) ∧ up = .slice (some ⟨g8, 0, none⟩) i c8 ∧ Hid (e = 2 * i ∧ i ≤ M) ∧ Hid (wr.ownsRow w7.heap.size 54 3 (.slice (some ⟨g8, 0, none⟩) i c8) i ((rowT (leafF l) a (k + 1) i).flatMap pEnc)) ∧ Hid (Below w7.heap.size w7 wr)) (fun _ ii _ => N - (intOf ii).toNat)
      case atStart => exact ⟨0, 0, _, _, rfl, rfl, ⟨rfl, Nat.zero_le _⟩, R8, B8⟩
      case round =>
        clear R8 B8
        obtain ⟨i, e, g8, c8, rfl, rfl, HI, RW, HB⟩ := hrel
        by_cases hlt : i < M
        · have he2 := HI.out.1
          have hNM := HN2.out.1
          have hm20 := HMl.out
          have hl1 : e < (rowT (leafF l) a k N).length := by rw [rowT_len]; omega
          have hl2 : e + 1 < (rowT (leafF l) a k N).length := by rw [rowT_len]; omega
          have HAr : Hid (AtP wr g6 (rowT (leafF l) a k N)) := A7.out.below HB.out A7.out.1
          have hgw : g6 < wr.heap.size := HAr.out.1
          have HCL : Hid (∀ w' : World, w'.heap[g6]? = wr.heap[g6]? → (w'.cell? ⟨g6, e * 3, none⟩ = some (.string ((rowT (leafF l) a k N).getD e default).sum) ∧ w'.cell? ⟨g6, e * 3 + 1, none⟩ = some (.int .i64 ((rowT (leafF l) a k N).getD e default).work) ∧ w'.cell? ⟨g6, e * 3 + 2, none⟩ = some (.int .i64 ((rowT (leafF l) a k N).getD e default).count)) ∧ (w'.cell? ⟨g6, (e + 1) * 3, none⟩ = some (.string ((rowT (leafF l) a k N).getD (e + 1) default).sum) ∧ w'.cell? ⟨g6, (e + 1) * 3 + 1, none⟩ = some (.int .i64 ((rowT (leafF l) a k N).getD (e + 1) default).work) ∧ w'.cell? ⟨g6, (e + 1) * 3 + 2, none⟩ = some (.int .i64 ((rowT (leafF l) a k N).getD (e + 1) default).count))) := fun w' hw' =>
            ⟨⟨(World.cell?_of_block (a := ⟨g6, e * 3, none⟩) hw').trans (AtP.c0 HAr.out e hl1), (World.cell?_of_block (a := ⟨g6, e * 3 + 1, none⟩) hw').trans (AtP.c1 HAr.out e hl1), (World.cell?_of_block (a := ⟨g6, e * 3 + 2, none⟩) hw').trans (AtP.c2 HAr.out e hl1)⟩, ⟨(World.cell?_of_block (a := ⟨g6, (e + 1) * 3, none⟩) hw').trans (AtP.c0 HAr.out (e + 1) hl2), (World.cell?_of_block (a := ⟨g6, (e + 1) * 3 + 1, none⟩) hw').trans (AtP.c1 HAr.out (e + 1) hl2), (World.cell?_of_block (a := ⟨g6, (e + 1) * 3 + 2, none⟩) hw').trans (AtP.c2 HAr.out (e + 1) hl2)⟩⟩
          have HP1 : Hid (peakOkB ((rowT (leafF l) a k N).getD e default) = true) := HOK.out k N e hm20.2.2.1 (by omega)
          have HP2 : Hid (peakOkB ((rowT (leafF l) a k N).getD (e + 1) default) = true) := HOK.out k N (e + 1) hm20.2.2.1 (by omega)
          have HR2 : Hid (rowT (leafF l) a (k + 1) (i + 1) = rowT (leafF l) a (k + 1) i ++ [bothP ((rowT (leafF l) a k N).getD e default) ((rowT (leafF l) a k N).getD (e + 1) default)]) := by
            show _ = _
            rw [he2]
            exact row_two _ a k i N (by omega)
          have HNE : Hid (g8 ≠ g6 ∧ w7.heap.size ≤ g8) := by
            have h1 := ownE_is RW.out (b := g8) rfl
            have h2 := A7.out.1
            exact ⟨by omega, h1.2⟩
          clear hl1 hl2 HAr
          generalize (rowT (leafF l) a k N).getD e default = t1 at HCL HP1 HR2
          generalize (rowT (leafF l) a k N).getD (e + 1) default = t2 at HCL HP2 HR2
          obtain ⟨⟨q0, q1, q2⟩, q3, q4, q5⟩ := HCL.out wr rfl
          have hbo := fun w' => specL5Both t1 t2 w' HP1.out HP2.out
          unfold peakVal at hbo
          have HRL : Hid ((rowT (leafF l) a (k + 1) i).length = i) := rowT_len _ _ _ _
          generalize bothP t1 t2 = nq at hbo HR2
          have hu := pEnc_one nq
          have lk : (e : Int) < (N : Int) := by omega
          have lk2 : (e : Int) + 1 < (N : Int) := by omega
          have lk0 : (0 : Int) ≤ (e : Int) := by omega
          have lk1 : (0 : Int) ≤ (e : Int) + 1 := by omega
          have wk1 : IntKind.i64.wrap ((e : Int) + 1) = (e : Int) + 1 := by rw [IntKind.wrap_i64]; omega
          have wk2 : IntKind.i64.wrap ((e : Int) + 2) = (e : Int) + 2 := by rw [IntKind.wrap_i64]; omega
          have hx1 : i + 1 ≤ maxLen := by unfold maxLen; omega
          have hx2 : (i + 1) * 32 ≤ 140737488355328 := by omega
          have hsz := HB.out.size
          have HK1 : Hid (i + 1 ≤ M ∧ e + 2 = 2 * (i + 1)) := ⟨hlt, by omega⟩
          have hne := HNE.out.1
          clear he2 hNM hm20 hlt
          go_wp2_with fail
          go_region_held3 (fun w' => (w'.cell? ⟨g6, e * 3, none⟩ = some (.string t1.sum) ∧ w'.cell? ⟨g6, e * 3 + 1, none⟩ = some (.int .i64 t1.work) ∧ w'.cell? ⟨g6, e * 3 + 2, none⟩ = some (.int .i64 t1.count)) ∧ (w'.cell? ⟨g6, (e + 1) * 3, none⟩ = some (.string t2.sum) ∧ w'.cell? ⟨g6, (e + 1) * 3 + 1, none⟩ = some (.int .i64 t2.work) ∧ w'.cell? ⟨g6, (e + 1) * 3 + 2, none⟩ = some (.int .i64 t2.count)))
            (first | go_keep | (exact HCL.out _ (b1.block g6 hgw)) | (exact HCL.out _ (((hgrow4.block g6 (by simp; omega) (by simpa [Value.ownBlock] using hne.symm)).trans (Below.heap_alloc _ _ _ (by omega))).trans (b1.block g6 hgw))))
            (first
              | (go_at_call 68; refine (hbo _).mono ?_; rintro e w1 ⟨rfl, b0⟩; have b1 : Below wr.heap.size wr w1 := ((Below.refl wr.heap.size wr).drew).trans b0; have hb1s : wr.heap.size ≤ w1.heap.size := b1.size; clear b0)
              | ((refine step_append_lies _ (by rfl) _ _ 25 (by rfl) w7.heap.size 54 i0 (.agg #[.string ⟨#[]⟩, .int .i64 0, .int .i64 0]) 3 32 Tryz.underlying25 hi hz0 hz1 hz2 rfl (by decide) _ i _ (by rfl) (World.ownsRow.alloc (ownE_keep RW.out (fun b _ hlt => b1.block b hlt)) _) ⟨w1.heap.size, 0, none⟩ 1 1 (pEnc nq) (by rfl) rfl (cells_new w1 54 (pEnc nq)) hu (by decide) hx1 hx2 (by simp; omega) _ rfl ?_; intro g4 c4 w4 hown4 hgrow4 hat4 hlt4)))
          have hb4 : Hid (Below w7.heap.size w7 w4) := ((HB.out.trans (b1.mono hsz)).alloc (by omega) _).grown hgrow4 (by simp; omega) (fun j hj => by
            have : g8 = j := by simpa [Value.ownBlock] using hj
            have := HNE.out.2
            omega)
          have HR4 : Hid (w4.ownsRow w7.heap.size 54 3 (.slice (some ⟨g4, 0, none⟩) (i + 1) c4) (i + 1) ((rowT (leafF l) a (k + 1) (i + 1)).flatMap pEnc)) := by
            have h5 : w4.ownsRow w7.heap.size 54 3 (.slice (some ⟨g4, 0, none⟩) (i + 1) c4) (i + 1) ((rowT (leafF l) a (k + 1) (i + 1)).flatMap pEnc) := by
              rw [HR2.out, List.flatMap_append]
              simpa using hown4
            exact h5
          clear hown4 hgrow4 hat4 hlt4 b1 q0 q1 q2 q3 q4 q5
          go_wp2_with fail
          go_roundw
          case rel => exact ⟨i + 1, e + 2, g4, c4, by go_num, rfl, ⟨HK1.out.2, HK1.out.1⟩, HR4, hb4⟩
          case measure => have := HK1.out; have := HN2.out; simp [intOf]; omega
        · obtain rfl : i = M := by have := HI.out.2; omega
          have hd1 : Int.tdiv (y : Int) 2 = ((y / 2 : Nat) : Int) := rfl
          have hyN : Hid (y < N) := HMl.out.2.2.2
          have lk : ¬ (e : Int) < (N : Int) := by have h1 := HI.out.1; have h2 := HN2.out.1; omega
          have lkn : ¬ e < N := by have h1 := HI.out.1; have h2 := HN2.out.1; omega
          have hm20 := HMl.out.2.1
          have TN : Hid (TreeW w wr (.slice (some ⟨g7, 0, none⟩) (m5 + 1) c7) o7 g8 (rowT (leafF l) a (k + 1) i)) := by
            have h1 := RW.out
            have h2 : FRow pEnc 54 3 w7.heap.size (.slice (some ⟨g8, 0, none⟩) i c8) (rowT (leafF l) a (k + 1) i) wr := FRow.of h1 (rowT_len _ _ _ _).symm
            have h3 := (FRow.at pEnc_len h2).1
            obtain ⟨g', c', cur, hv, hB, hlt', _⟩ := P7.out.block
            have hg : g7 = g' := by
              simp only [Value.slice.injEq, Option.some.injEq, Addr.mk.injEq, and_true] at hv
              exact hv.1
            refine ⟨FRow.below P7.out HB.out, h3, ?_, B7.out.trans (HB.out.mono B7.out.size)⟩
            have h4 := (ownE_is h1 (b := g8) rfl).2
            simp only [Value.ownBlock, ne_eq, Option.some.injEq]
            omega
          have HEN : Hid (N = 2 * i ∧ i = 2 ^ j ∧ k + 1 + j = J ∧ y < N ∧ 0 < i) := ⟨HN2.out.1, HN2.out.2.1, by have := HN2.out.2.2; omega, hyN.out, HM0.out⟩
          clear P7 A7 B7 RW HB HI
          go_wp2_with fail
          go_roundw
          case rel => exact ⟨k + 1, j, y / 2, i, g8, c8, g7, m5 + 1, c7, o7, congrArg (Value.int .i64) (by have h1 := HEN.out; have h2 := HMl.out; rw [← IntWalk.i64_left, IntKind.wrap_i64]; omega), rfl, rfl, ⟨HEN.out.2.2.1, HEN.out.2.1, by have := HEN.out; omega, HOK2.out⟩, TN, HT7⟩
          case measure => have := HEN.out; simp [lenV]; omega
end Go.Proofs.YtialhnocknogpaaGreatDoor

set_option linter.unusedVariables false
namespace Go.Proofs.YtialhnocknogpaaGreatDoor
open Go.RowKit Go.Deep

theorem CBk.pairF {w : World} {g : Nat} {T : TypeId} {a b : Value} (h : CBk w g T #[a, b]) : w.cell? ⟨g, 0, none⟩ = some a ∧ w.cell? ⟨g, 1, none⟩ = some b ∧ w.frozen? ⟨g, 0, none⟩ = false ∧ w.frozen? ⟨g, 1, none⟩ = false :=
  ⟨h.cell 0, h.cell 1, h.frozen 0, h.frozen 1⟩
end Go.Proofs.YtialhnocknogpaaGreatDoor

set_option linter.unusedVariables false
namespace Go.Proofs.YtialhnocknogpaaGreatDoor
open Go.RowKit Go.Deep

set_option maxHeartbeats 2000000 in
set_option maxRecDepth 100000 in
theorem specL5PeakN (g n cap : Nat) (ps : List PeakV) (a : Int) (w : World) (h : AtP w g ps) (hn : n = ps.length) (hm : n ≤ 1048576) (hl20 : ps.length ≤ 20) (hpk : ∀ i, i < ps.length → peakOkB (ps.getD i default) = true) (hcn : ∀ k, k ≤ ps.length → 0 ≤ cntTo ps k ∧ cntTo ps k ≤ 20) :
    Calls Tryz.prog 70 #[.slice (some ⟨g, 0, none⟩) n cap, .int .i64 a] w fun e w' => PlacePost ps a e ∧ w = w' := by
  have HA : Hid (AtP w g ps) := h
  have HN : Hid (n = ps.length) := hn
  have HPK : Hid (∀ i, i < ps.length → peakOkB (ps.getD i default) = true) := hpk
  have HCN : Hid (∀ k, k ≤ ps.length → 0 ≤ cntTo ps k ∧ cntTo ps k ≤ 20) := hcn
  have HY : Hid (∀ k e, placeP ps a = some k → e = .returned (.tuple #[.int .i64 (k : Int), .int .i64 (cntTo ps k)]) → PlacePost ps a e) := fun k e h1 h2 => .inl ⟨k, h1, h2⟩
  have HX : Hid (∀ x e, placeP ps a = none → e = .returned (.tuple #[.int .i64 (-1), .int .i64 x]) → PlacePost ps a e) := fun x e h1 h2 => .inr ⟨h1, x, h2⟩
  generalize PlacePost ps a = Q at HY HX ⊢
  clear h hn hpk hcn
  go_enter Tryz.func70, Tryz.ntmps70
  go_wp2_with fail
  go_loopw [6, 7] (fun f i wr => ∃ k : Nat, k ≤ n ∧ i = .int .i64 (k : Int) ∧ f = .int .i64 (cntTo ps k) ∧ Hid (w = wr) ∧ Hid (∀ j, j < k → ¬ a < cntTo ps (j + 1))) (fun _ i _ => n - (intOf i).toNat)
  case atStart => exact ⟨0, by omega, rfl, rfl, rfl, fun j hj => by omega⟩
  case round =>
    obtain ⟨k, hk, rfl, rfl, HW, HQ⟩ := hrel
    by_cases hlt : k < n
    · have hkl : k < ps.length := by rw [← HN.out]; exact hlt
      have HAr : Hid (AtP wr g ps) := by rw [← HW.out]; exact HA.out
      have q2 := AtP.c2 HAr.out k hkl
      have lk : (k : Int) < (n : Int) := by omega
      have lk0 : (0 : Int) ≤ (k : Int) := by omega
      have wk : IntKind.i64.wrap ((k : Int) + 1) = (k : Int) + 1 := by rw [IntKind.wrap_i64]; omega
      have HK1 : Hid (k + 1 ≤ n) := hlt
      have hri := peakOk_in (HPK.out k hkl)
      have hci := HCN.out k (by omega)
      have hw1 : IntKind.i64.wrap (cntTo ps k + (ps.getD k default).count) = cntTo ps k + (ps.getD k default).count := by rw [IntKind.wrap_i64]; omega
      have HC1 : Hid (cntTo ps (k + 1) = cntTo ps k + (ps.getD k default).count) := rfl
      have HYk : Hid (∀ e, a < cntTo ps (k + 1) → e = .returned (.tuple #[.int .i64 (k : Int), .int .i64 (cntTo ps k)]) → Q e) := fun e h1 h2 => HY.out k e (place_at hkl h1 HQ.out) h2
      have HQ2 : Hid (¬ a < cntTo ps (k + 1) → ∀ j, j < k + 1 → ¬ a < cntTo ps (j + 1)) := by
        intro hh j hj
        rcases Nat.lt_or_ge j k with h' | h'
        · exact HQ.out j h'
        · obtain rfl : j = k := by omega
          exact hh
      clear HQ hkl HAr hri hci
      generalize (ps.getD k default).count = c at q2 hw1 HC1
      generalize cntTo ps k = ck at hw1 HC1 HYk ⊢
      by_cases hin : a < ck + c
      · have HV : Hid (∀ e, e = .returned (.tuple #[.int .i64 (k : Int), .int .i64 ck]) → Q e) := fun e he => HYk.out e (by rw [HC1.out]; exact hin) he
        clear HY HX HYk HQ2 HC1
        go_wp2_with fail
        go_ret2
        exact ⟨HV.out _ rfl, HW.out⟩
      · have HQ3 : Hid (∀ j, j < k + 1 → ¬ a < cntTo ps (j + 1)) := HQ2.out (by rw [HC1.out]; exact hin)
        clear HYk HQ2
        go_wp2_with fail
        go_roundw
        case rel => exact ⟨k + 1, HK1.out, by go_num, by rw [HC1.out], HW, HQ3⟩
        case measure => have := HK1.out; simp [intOf]; omega
    · obtain rfl : k = n := by omega
      have HV : Hid (∀ x e, e = .returned (.tuple #[.int .i64 (-1), .int .i64 x]) → Q e) := fun x e he => HX.out x e (place_no (fun j hj => HQ.out j (by rw [HN.out]; exact hj))) he
      generalize cntTo ps k = ck at ⊢
      clear HY HX HQ
      go_wp2_with fail
      go_ret2
      exact ⟨HV.out _ _ rfl, HW.out⟩


/-- The place of a leaf among the range's peaks: its peak, where that begins, and its steps. -/
theorem proof_place {l : List HeadV} (hok : ∀ i, i < l.length → headOkB (l.getD i default) = true) (hl : l.length ≤ 20) (x m : Nat) (hx : x < m) (hm : m ≤ l.length) : ∃ (k a i : Nat), placeP (ofP l m) (x : Int) = some k ∧ k < (ofP l m).length ∧ cntTo (ofP l m) k = (a : Int) ∧ ((ofP l m).getD k default).count = ((2 ^ i : Nat) : Int) ∧ a ≤ x ∧ x < a + 2 ^ i ∧ a + 2 ^ i ≤ m ∧ notesN (leafF l) x m = treeS i (rowT (leafF l) a 0 (2 ^ i)) (x - a) := by
  obtain ⟨t, t1, t2, t3⟩ := stk_shp (leafF_cnt l) x m
  have hp := stk_peaks t1
  obtain ⟨k, a, i, k1, k2, k3, k4, k5, k6, k7, k8⟩ := shp_place (leafF_cnt l) x t m 0 t2 hx
  have hc := shp_cnt (leafF_cnt l) t m 0 t2
  have hmo := cnt_mono (peaksT_pos (leafF_cnt l) t) ((peaksT (leafF l) t).length - (k + 1)) (k + 1) (by omega)
  rw [show k + 1 + ((peaksT (leafF l) t).length - (k + 1)) = (peaksT (leafF l) t).length from by omega, hc, cntTo, k4, k5, treeT_cnt (leafF_cnt l)] at hmo
  rw [hp]
  refine ⟨k, a, i, place_at k1 k2 k3, k1, k4, by rw [k5, treeT_cnt (leafF_cnt l)], k6, k7, by omega, ?_⟩
  rw [t3, k8, treeS_sib _ _ _ _ (by omega)]
theorem ofP_in {l : List HeadV} (hok : ∀ i, i < l.length → headOkB (l.getD i default) = true) (hl : l.length ≤ 20) (m : Nat) (hm : m ≤ l.length) : ∀ k, k ≤ (ofP l m).length → 0 ≤ cntTo (ofP l m) k ∧ cntTo (ofP l m) k ≤ 20 := by
  obtain ⟨h1, h2, h3⟩ := ofP_ok hok hl m hm
  intro k hk
  have hpos : ∀ q ∈ ofP l m, 0 ≤ q.count := fun q hq => by have := peakOk_in (h1 q hq); omega
  have a1 := cnt_mono hpos k 0 (by omega)
  have a2 := cnt_mono hpos ((ofP l m).length - k) k (by omega)
  rw [show k + ((ofP l m).length - k) = (ofP l m).length from by omega, h2] at a2
  rw [Nat.zero_add] at a1
  have a3 : cntTo (ofP l m) 0 = 0 := rfl
  omega
theorem spec_fin {w wr : World} {g4 : Nat} {vp vs : Value} {ps ss : List PeakV} (h4 : CBk wr g4 27 #[.slice none 0 0, .slice none 0 0]) (hp : wr.ownsRow w.heap.size 54 3 vp ps.length (ps.flatMap pEnc)) (hs : wr.ownsRow w.heap.size 54 3 vs ss.length (ss.flatMap pEnc)) (hb : Below w.heap.size w wr) (hg : w.heap.size ≤ g4) :
    CBk ((wr.setCell ⟨g4, 0, none⟩ vp).setCell ⟨g4, 1, none⟩ vs) g4 27 #[vp, vs] ∧ ((wr.setCell ⟨g4, 0, none⟩ vp).setCell ⟨g4, 1, none⟩ vs).ownsRow w.heap.size 54 3 vp ps.length (ps.flatMap pEnc) ∧ ((wr.setCell ⟨g4, 0, none⟩ vp).setCell ⟨g4, 1, none⟩ vs).ownsRow w.heap.size 54 3 vs ss.length (ss.flatMap pEnc) ∧ Below w.heap.size w ((wr.setCell ⟨g4, 0, none⟩ vp).setCell ⟨g4, 1, none⟩ vs) := by
  have h6 := h4.set 0 vp
  exact ⟨h6.set 1 vs, own_set (own_set hp h4 ftne) h6 ftne, own_set (own_set hs h4 ftne) h6 ftne, (hb.setCell (p := ⟨g4, 0, none⟩) hg _).setCell (p := ⟨g4, 1, none⟩) hg _⟩
theorem prf_spec {l : List HeadV} {X : Nat} {w w' : World} {vp vs : Value} (hk : headsB l = true) (hx : X < l.length) (hp : w'.ownsRow w.heap.size 54 3 vp (ofP l l.length).length ((ofP l l.length).flatMap pEnc)) (hs : w'.ownsRow w.heap.size 54 3 vs (notesN (leafF l) X l.length).length ((notesN (leafF l) X l.length).flatMap pEnc)) (hb : Below w.heap.size w w') : PrfPost l (X : Int) w (.returned (.agg #[vp, vs])) w' := by
  have e : proofL l (X : Int) = (ofP l l.length, notesN (leafF l) X l.length) := by rw [proofL, if_pos ⟨hk, by omega, by omega⟩]; rfl
  exact ⟨_, _, rfl, by rw [e]; exact pks_own hp, by rw [e]; exact pks_own hs, hb⟩

set_option maxHeartbeats 8000000 in
set_option maxRecDepth 100000 in
theorem specL5Proof (g n cap : Nat) (l : List HeadV) (X : Nat) (w : World) (hA : AtHead w g l) (hn : n = l.length) (hk : headsB l = true) (hX : X < l.length) :
    Calls Tryz.prog 43 #[.slice (some ⟨g, 0, none⟩) n cap, .int .i64 (X : Int)] w fun e w' => PrfPost l (X : Int) w e w' := by
  have hl20 := heads_len hk
  have hok := heads_at hk
  have HA : Hid (AtHead w g l) := hA
  have HN : Hid (n = l.length) := hn
  have HL : Hid (l.length ≤ 20) := hl20
  have HOF : Hid (∀ w', Below w.heap.size w w' → Calls Tryz.prog 24 #[.slice (some ⟨g, 0, none⟩) n cap] w' fun e w'' => ∃ v, e = .returned v ∧ PRow w'.heap.size v (ofP l n) w'' ∧ Below w'.heap.size w' w'') := fun w' hb => specL5Of g n cap l w' (hA.below hb hA.1) hn (by omega) hok
  have HLF : Hid (∀ b, b < l.length → ∀ w', Calls Tryz.prog 42 #[headVal (l.getD b default)] w' fun e w'' => e = .returned (peakVal (leafP (l.getD b default))) ∧ Below w'.heap.size w' w'') := fun b hb w' => specL5Leaf _ w' (hok b hb)
  obtain ⟨k, a, i, p1, p2, p3, p4, p5, p6, p7, p8⟩ := proof_place hok hl20 X n (by omega) (by omega)
  obtain ⟨o1, o2, o3⟩ := ofP_ok hok hl20 n (by omega)
  have HPK : Hid (∀ (g' c' : Nat) (w' : World), AtP w' g' (ofP l n) → Calls Tryz.prog 70 #[.slice (some ⟨g', 0, none⟩) (ofP l n).length c', .int .i64 (X : Int)] w' fun e w'' => e = .returned (.tuple #[.int .i64 (k : Int), .int .i64 (a : Int)]) ∧ w' = w'') := fun g' c' w' h => by
    refine (specL5PeakN g' (ofP l n).length c' (ofP l n) (X : Int) w' h rfl (by omega) (by omega) (fun i hi => getD_all (C := fun q => peakOkB q = true) o1 i hi) (ofP_in hok hl20 n (by omega))).mono ?_
    rintro e w'' ⟨hp, hw⟩
    rcases hp with ⟨k', h1, h2⟩ | ⟨h1, _⟩
    · rw [p1] at h1
      cases h1
      rw [h2, p3]
      exact ⟨rfl, hw⟩
    · rw [p1] at h1
      cases h1
  have HTR : Hid (∀ (g' c' : Nat) (w' : World), AtP w' g' (rowT (leafF l) a 0 (2 ^ i)) → Calls Tryz.prog 71 #[.slice (some ⟨g', 0, none⟩) (2 ^ i) c', .int .i64 ((X - a : Nat) : Int)] w' fun e w'' => ∃ v, e = .returned v ∧ PRow w'.heap.size v (notesN (leafF l) X n) w'' ∧ Below w'.heap.size w' w'') := fun g' c' w' h => by
    rw [p8]
    exact specL5Tree g' (2 ^ i) c' (X - a) i a l w' h rfl (by omega) (by omega) hl20 hok
  have HQ : Hid (∀ (vp vs : Value) (w' : World), w'.ownsRow w.heap.size 54 3 vp (ofP l n).length ((ofP l n).flatMap pEnc) → w'.ownsRow w.heap.size 54 3 vs (notesN (leafF l) X n).length ((notesN (leafF l) X n).flatMap pEnc) → Below w.heap.size w w' → PrfPost l (X : Int) w (.returned (.agg #[vp, vs])) w') := fun vp vs w' h1 h2 h3 => prf_spec hk hX (by rw [← hn]; exact h1) (by rw [← hn]; exact h2) h3
  generalize PrfPost l (X : Int) w = Q at HQ ⊢
  have HP4 : Hid (((ofP l n).getD k default).count = ((2 ^ i : Nat) : Int)) := p4
  have HP2 : Hid (k < (ofP l n).length ∧ (ofP l n).length ≤ 20) := ⟨p2, by omega⟩
  generalize notesN (leafF l) X n = N at HTR HQ
  have HI : Hid (a + 2 ^ i ≤ n ∧ a ≤ X ∧ X < n ∧ n ≤ 20) := ⟨p7, p5, by omega, by omega⟩
  generalize 2 ^ i = P at HTR HP4 HI
  clear p1 p2 p3 p4 p5 p6 p7 p8 o1 o2 o3 hA hn hk hX hl20 hok
  generalize hps : ofP l n = ps at HOF HPK HQ HP4 HP2
  clear hps
  have L0 : Hid (Below w.heap.size w (w.alloc (.cells #[.slice none 0 0, .slice none 0 0] 27))) := (Below.refl _ w).alloc (Nat.le_refl _) _
  have T0 : Hid (CBk (w.alloc (.cells #[.slice none 0 0, .slice none 0 0] 27)) w.heap.size 27 #[.slice none 0 0, .slice none 0 0]) := CBk.new w _ _
  obtain ⟨g4, hg4⟩ : ∃ g4, g4 = w.heap.size := ⟨_, rfl⟩
  have HG4 : Hid (w.heap.size ≤ g4) := Nat.le_of_eq hg4.symm
  obtain ⟨i0, hi, hz0, hz1, hz2⟩ := info3 infoPeak
  go_enter Tryz.func43, Tryz.ntmps43
  go_wp2_with fail
  have hof := HOF.out _ L0.out
  rw [← hg4] at T0 ⊢
  clear hg4
  refine hof.mono ?_
  rintro e w1 ⟨v, rfl, r1, b1⟩
  have B1 : Hid (Below w.heap.size w w1) := L0.out.trans (b1.mono L0.out.size)
  have T1 : Hid (CBk w1 g4 27 #[.slice none 0 0, .slice none 0 0]) := T0.out.call b1
  have R1 : Hid (PRow w.heap.size v ps w1) := r1.mono L0.out.size
  clear hof HOF r1 b1 T0 L0
  obtain ⟨⟨gv, cv, rfl⟩, -⟩ := id R1.out
  have hpk := HPK.out gv cv w1 (FRow.at pEnc_len R1.out).1
  clear HPK
  go_wp2_with fail
  refine hpk.mono ?_
  rintro e w2 ⟨rfl, hw⟩
  subst hw
  clear hpk
  go_upto_region 5 with fail
  have R3 : Hid (PRow w1.heap.size (.slice (some ⟨w1.heap.size, 0, none⟩) 0 0) (rowT (leafF l) a 0 0) (w1.alloc (.cells #[] 54))) := frow_new pEnc 54 3 w1
  have B3 : Hid (Below w1.heap.size w1 (w1.alloc (.cells #[] 54))) := (Below.refl _ w1).alloc (Nat.le_refl _) _
  generalize w1.alloc (.cells #[] 54) = W3 at R3 B3 ⊢
  have lk : (k : Int) < (ps.length : Int) := by have := HP2.out.1; omega
  have lk0 : (0 : Int) ≤ (k : Int) := by omega
  have wk : IntKind.i64.wrap ((a : Int) + (P : Int)) = (a : Int) + (P : Int) := by have := HI.out; rw [IntKind.wrap_i64]; omega
  go_loopw [8, 9] (fun lv ii wr => ∃ (m b g8 c8 : Nat), ii = .int .i64 (b : Int) ∧ lv = .slice (some ⟨g8, 0, none⟩) m c8 ∧ Hid (b = a + m ∧ m ≤ P) ∧ Hid (PRow w1.heap.size (.slice (some ⟨g8, 0, none⟩) m c8) (rowT (leafF l) a 0 m) wr) ∧ Hid (Below w1.heap.size w1 wr)) (fun _ ii _ => n - (intOf ii).toNat)
  case atStart => exact ⟨0, a, _, _, rfl, rfl, ⟨rfl, Nat.zero_le _⟩, R3, B3⟩
  case round =>
    clear R3 B3
    obtain ⟨m, b, g8, c8, rfl, rfl, HM, RW, HB⟩ := hrel
    have q2 : wr.cell? ⟨gv, k * 3 + 2, none⟩ = some (.int .i64 (P : Int)) := by
      have h1 := AtP.c2 (FRow.at pEnc_len (FRow.below R1.out HB.out)).1 k HP2.out.1
      rw [HP4.out] at h1
      exact h1
    by_cases hlt : m < P
    · have hbl : b < l.length := by have h1 := HI.out; have h2 := HM.out; have h3 := HN.out; omega
      have HBW : Hid (Below w.heap.size w wr) := B1.out.trans (HB.out.mono B1.out.size)
      have HAr := HA.out.below HBW.out HA.out.1
      have c0 := AtHead.c0 HAr b hbl
      have c1 := AtHead.c1 HAr b hbl
      have c2 := AtHead.c2 HAr b hbl
      have c3 := AtHead.c3 HAr b hbl
      have c4 := AtHead.c4 HAr b hbl
      have lb : (b : Int) < (a : Int) + (P : Int) := by have h2 := HM.out; omega
      have lbn : (b : Int) < (n : Int) := by have h3 := HN.out; omega
      have lb0 : (0 : Int) ≤ (b : Int) := by omega
      have wb : IntKind.i64.wrap ((b : Int) + 1) = (b : Int) + 1 := by have h1 := HI.out; have h3 := HN.out; rw [IntKind.wrap_i64]; omega
      have HK1 : Hid (m + 1 ≤ P ∧ b + 1 = a + (m + 1) ∧ b < n) := ⟨hlt, by have h2 := HM.out; omega, by have h3 := HN.out; omega⟩
      have hlf := HLF.out b hbl
      have HS : Hid (rowT (leafF l) a 0 (m + 1) = rowT (leafF l) a 0 m ++ [leafP (l.getD b default)]) := by
        show _ = _
        have h2 : a + m * 2 ^ 0 = b := by have h2 := HM.out.1; rw [Nat.pow_zero, Nat.mul_one]; omega
        rw [rowT_snoc, h2]
        rfl
      have hx1 : m + 1 ≤ maxLen := by have h1 := HI.out; unfold maxLen; omega
      have hx2 : (m + 1) * 32 ≤ 140737488355328 := by have h1 := HI.out; omega
      generalize leafP (l.getD b default) = p at hlf HS
      generalize l.getD b default = h at c0 c1 c2 c3 c4 hlf
      unfold headVal peakVal at hlf
      have hu := pEnc_one p
      clear HAr hbl
      go_wp2_with fail
      refine (hlf _).mono ?_
      rintro e w3 ⟨rfl, b3⟩
      have HB3 : Hid (Below w1.heap.size w1 w3) := HB.out.trans (b3.mono HB.out.size)
      have R3 : Hid (PRow w1.heap.size (.slice (some ⟨g8, 0, none⟩) m c8) (rowT (leafF l) a 0 m) w3) := FRow.below RW.out b3
      have hsz := HB3.out.size
      have HRW : Hid (w3.ownsRow w1.heap.size 54 3 (.slice (some ⟨g8, 0, none⟩) m c8) m ((rowT (leafF l) a 0 m).flatMap pEnc)) := by
        have h1 := prow_own R3.out
        rwa [rowT_len] at h1
      clear hlf b3 RW HB HBW c0 c1 c2 c3 c4 q2 R3 HM
      go_wp2_with (at_builtin; refine wp_appN rfl _ _ 25 rfl w1.heap.size 54 i0 (.agg #[.string ⟨#[]⟩, .int .i64 0, .int .i64 0]) 3 32 1 Tryz.underlying25 hi hz0 hz1 hz2 rfl (by decide) (by decide) _ _ _ rfl HRW.out (pEnc p) (by first | rfl | simp [Act.eval]) rfl hu hx1 hx2 hsz ?_; intro g7 c7 w7 hown7 hb7 hkeep7)
      have R7 : Hid (PRow w1.heap.size (.slice (some ⟨g7, 0, none⟩) (m + 1) c7) (rowT (leafF l) a 0 (m + 1)) w7) := by
        have h1 : PRow w1.heap.size (.slice (some ⟨g7, 0, none⟩) (m + 1) c7) (rowT (leafF l) a 0 (m + 1)) w7 := by
          refine FRow.of ?_ (rowT_len _ _ _ _).symm
          rw [HS.out, List.flatMap_append]
          simpa using hown7
        exact h1
      have B7 : Hid (Below w1.heap.size w1 w7) := HB3.out.trans hb7
      clear hown7 hb7 hkeep7 HB3 HRW hsz hu hx1 hx2 HS
      go_wp2_with fail
      go_roundw
      case rel => exact ⟨m + 1, b + 1, g7, c7, by go_num, rfl, ⟨HK1.out.2.1, HK1.out.1⟩, R7, B7⟩
      case measure => have := HK1.out; simp [intOf]; omega
    · obtain rfl : m = P := by have := HM.out; omega
      have lb : ¬ (b : Int) < (a : Int) + (m : Int) := by have h2 := HM.out; omega
      have lbn : ¬ b < a + m := by have h2 := HM.out; omega
      have hws : IntKind.i64.wrap ((X : Int) - (a : Int)) = ((X - a : Nat) : Int) := by have h1 := HI.out; rw [IntKind.wrap_i64]; omega
      have htr := HTR.out g8 c8 wr (FRow.at pEnc_len RW.out).1
      have HBW : Hid (Below w.heap.size w wr) := B1.out.trans (HB.out.mono B1.out.size)
      have TR : Hid (CBk wr g4 27 #[.slice none 0 0, .slice none 0 0]) := T1.out.call HB.out
      have RR : Hid (PRow w.heap.size (.slice (some ⟨gv, 0, none⟩) ps.length cv) ps wr) := FRow.below R1.out HB.out
      clear HTR RW HB HA HLF R1 T1
      obtain ⟨y, hy⟩ : ∃ y, y = X - a := ⟨_, rfl⟩
      rw [← hy] at htr hws
      clear hy
      go_wp2_with fail
      refine htr.mono ?_
      rintro e w5 ⟨vs, rfl, r5, b5⟩
      have B5 : Hid (Below w.heap.size w w5) := HBW.out.trans (b5.mono HBW.out.size)
      have T5 : Hid (CBk w5 g4 27 #[.slice none 0 0, .slice none 0 0]) := TR.out.call b5
      have R5 : Hid (PRow w.heap.size (.slice (some ⟨gv, 0, none⟩) ps.length cv) ps w5) := FRow.below RR.out b5
      have S5 : Hid (PRow w.heap.size vs N w5) := r5.mono HBW.out.size
      obtain ⟨⟨gw, cw, rfl⟩, -⟩ := id S5.out
      obtain ⟨hf1, hf2, hf3, hf4⟩ := spec_fin T5.out (prow_own R5.out) (prow_own S5.out) B5.out HG4.out
      have HF1 : Hid (CBk ((w5.setCell ⟨g4, 0, none⟩ (.slice (some ⟨gv, 0, none⟩) ps.length cv)).setCell ⟨g4, 1, none⟩ (.slice (some ⟨gw, 0, none⟩) N.length cw)) g4 27 #[.slice (some ⟨gv, 0, none⟩) ps.length cv, .slice (some ⟨gw, 0, none⟩) N.length cw]) := hf1
      have HFQ : Hid (Q (.returned (.agg #[.slice (some ⟨gv, 0, none⟩) ps.length cv, .slice (some ⟨gw, 0, none⟩) N.length cw])) ((w5.setCell ⟨g4, 0, none⟩ (.slice (some ⟨gv, 0, none⟩) ps.length cv)).setCell ⟨g4, 1, none⟩ (.slice (some ⟨gw, 0, none⟩) N.length cw))) := HQ.out _ _ _ hf2 hf3 hf4
      obtain ⟨e0, e1, f0, f1⟩ := T5.out.pairF
      clear hf1 hf2 hf3 hf4 HQ r5 b5 R5 S5 TR RR htr
      go_wp2_with fail
      exact bodyPost_ret (results_cell_row (p := 4) rfl _ _ g4 27 #[.slice (some ⟨gv, 0, none⟩) ps.length cv, .slice (some ⟨gw, 0, none⟩) N.length cw] (0, 0) _ rfl HF1.out Tryz.underlying27 rfl (by kernel_rfl)) rfl HFQ.out
end Go.Proofs.YtialhnocknogpaaGreatDoor

set_option linter.unusedVariables false
namespace Go.Proofs.YtialhnocknogpaaGreatDoor
open Go.RowKit Go.Deep

theorem pks_slice {B : Nat} {v : Value} {l : List PeakV} {w : World} (h : Pks B v l w) : ∃ a n c, v = .slice a n c := by
  rcases h with ⟨rfl, _⟩ | ⟨g, cap, rfl, _⟩
  · exact ⟨_, _, _, rfl⟩
  · exact ⟨_, _, _, rfl⟩
/-- Behind the store of an answer into a block of before. -/
theorem pks_store {B g4 j : Nat} {v u : Value} {l : List PeakV} {w : World} (h : Pks B v l w) (hg : g4 < B) : Pks B v l (w.setCell ⟨g4, j, none⟩ u) :=
  h.keep (by simp) (fun g hv => by
    have h1 := (h.blk hv).2
    have hne : g4 ≠ g := by omega
    simp [World.setCell, Array.getElem?_modify, hne])
end Go.Proofs.YtialhnocknogpaaGreatDoor

set_option linter.unusedVariables false
namespace Go.Proofs.YtialhnocknogpaaGreatDoor
open Go.RowKit

def bsum (t : List UInt8) : ByteArray := ⟨(sumB t).toArray⟩
theorem bsum_size (t : List UInt8) : (bsum t).size = 16 := by simp [bsum, ByteArray.size, sumB, hexOf]
def rootItemB (s : ByteArray) : ByteArray := bsum ([105, 116, 101, 109, 32] ++ s.data.toList)
def bothB (a b : ByteArray) : ByteArray := bsum ([98, 111, 116, 104, 32] ++ a.data.toList ++ [32] ++ b.data.toList)
def upR : List ByteArray → List ByteArray
  | a :: b :: r => bothB a b :: upR r
  | l => l
theorem upR_append : ∀ (l m : List ByteArray), l.length % 2 = 0 → upR (l ++ m) = upR l ++ upR m
  | [], m, _ => by simp [upR]
  | [a], m, h => by simp at h
  | a :: b :: r, m, h => by
    have ih := upR_append r m (by simp at h; omega)
    simp [upR, ih]
theorem upR_short {l : List ByteArray} (h : l.length ≤ 1) : upR l = l := by
  match l, h with
  | [], _ => rfl
  | [a], _ => rfl
theorem upR_length : ∀ l : List ByteArray, (upR l).length = (l.length + 1) / 2
  | [] => by simp [upR]
  | [a] => by simp [upR]
  | a :: b :: r => by
    have := upR_length r
    simp [upR, this]
    omega
theorem upR_16 : ∀ l : List ByteArray, (∀ s ∈ l, s.size = 16) → ∀ s ∈ upR l, s.size = 16
  | [], _ => by simp [upR]
  | [a], h => by simpa [upR] using h
  | a :: b :: r, h => by
    intro s hs
    rcases List.mem_cons.1 hs with rfl | hs
    · exact bsum_size _
    · exact upR_16 r (fun x hx => h x (by simp [hx])) s hs
theorem take_two (l : List ByteArray) (k : Nat) (hk : k + 1 < l.length) (he : k % 2 = 0) : upR (l.take (k + 2)) = upR (l.take k) ++ [bothB (l.getD k ByteArray.empty) (l.getD (k + 1) ByteArray.empty)] := by
  have e : l.take (k + 2) = l.take k ++ [l.getD k ByteArray.empty, l.getD (k + 1) ByteArray.empty] := by
    rw [show k + 2 = (k + 1) + 1 from rfl, List.take_add_one, List.take_add_one, List.getElem?_eq_getElem (by omega), List.getElem?_eq_getElem hk, List.append_assoc]
    simp [List.getElem?_eq_getElem hk, List.getElem?_eq_getElem (show k < l.length by omega)]
  rw [e, upR_append _ _ (by simp; omega)]
  rfl
theorem take_last (l : List ByteArray) (k : Nat) (hk : k + 1 = l.length) (he : k % 2 = 0) : upR l = upR (l.take k) ++ [l.getD k ByteArray.empty] := by
  have e : l = l.take k ++ [l.getD k ByteArray.empty] := by
    conv => lhs; rw [← List.take_append_drop k l]
    congr 1
    rw [List.drop_eq_getElem_cons (by omega), List.drop_eq_nil_of_le (by omega)]
    simp [List.getElem?_eq_getElem (show k < l.length by omega)]
  conv => lhs; rw [e]
  rw [upR_append _ _ (by simp; omega)]
  rfl
theorem take_rest (l : List ByteArray) (k : Nat) (hk : l.length ≤ k + 1) (he : k % 2 = 0) (hkl : k ≤ l.length) : upR l = upR (l.take k) ++ l.drop k := by
  conv => lhs; rw [← List.take_append_drop k l]
  rw [upR_append _ _ (by simp; omega), upR_short (l := l.drop k) (by simp; omega)]
def topR : Nat → List ByteArray → List ByteArray
  | 0, r => r
  | f + 1, r => if r.length ≤ 1 then r else topR f (upR r)
theorem topR_done (f : Nat) {r : List ByteArray} (h : r.length ≤ 1) : topR f r = r := by
  cases f with
  | zero => rfl
  | succ f => simp [topR, h]
theorem topR_step (f : Nat) {r : List ByteArray} (h : ¬ r.length ≤ 1) (hf : r.length ≤ f) : topR f r = topR (f - 1) (upR r) := by
  cases f with
  | zero => omega
  | succ f => simp [topR, h]
theorem topR_more (f g : Nat) : ∀ (r : List ByteArray), r.length ≤ f → r.length ≤ g → topR f r = topR g r := by
  induction f generalizing g with
  | zero => intro r hf hg; rw [topR_done 0 (by omega), topR_done g (by omega)]
  | succ f ih =>
    intro r hf hg
    by_cases h : r.length ≤ 1
    · rw [topR_done _ h, topR_done _ h]
    · rw [topR_step _ h hf, topR_step _ h hg]
      have := upR_length r
      exact ih _ _ (by omega) (by omega)
theorem topR_up {r : List ByteArray} (h : ¬ r.length ≤ 1) : topR r.length r = topR (upR r).length (upR r) := by
  rw [topR_step _ h (Nat.le_refl _)]
  have := upR_length r
  exact topR_more _ _ _ (by omega) (Nat.le_refl _)
/-- What a row comes to. -/
def rootR (r : List ByteArray) : ByteArray := (topR r.length r).getD 0 ByteArray.empty
theorem rootR_up {r : List ByteArray} (h : ¬ r.length ≤ 1) : rootR r = rootR (upR r) := by rw [rootR, topR_up h]; rfl
theorem rootR_one {r : List ByteArray} (h : r.length ≤ 1) : rootR r = r.getD 0 ByteArray.empty := by rw [rootR, topR_done _ h]

end Go.Proofs.YtialhnocknogpaaGreatDoor

set_option linter.unusedVariables false
namespace Go.Proofs.YtialhnocknogpaaGreatDoor
open Go.ChangeShapes Go.WideShapes Go.ChangeAt Go.RowKit Go.Deep

structure SideV where
  sum : ByteArray
  left : Bool
instance : Inhabited SideV := ⟨⟨⟨#[]⟩, false⟩⟩
def enSide (p : SideV) : List Value := [.string p.sum, .bool p.left]
theorem enSide_len (p : SideV) : (enSide p).length = 2 := rfl
/-- Its texts can be held. -/
def wfSide (p : SideV) : Prop := p.sum.size ≤ maxLen
/-- Its texts are small. -/
def smallSide (p : SideV) : Prop := p.sum.size ≤ 1048576
abbrev IsSides (w : World) (a : Option Addr) (len cap : Nat) (l : List SideV) : Prop := IsFlat enSide wfSide 2 w a len cap l
abbrev RowSide (w : World) (g : Nat) (l : List SideV) : Prop := RowF enSide 117 w g l
abbrev AtSide (w : World) (g : Nat) (l : List SideV) : Prop := AtF enSide 2 w g l
theorem AtSide.c0 {w : World} {g : Nat} {l : List SideV} (h : AtSide w g l) (i : Nat) (hi : i < l.length) : w.cell? ⟨g, i * 2, none⟩ = some (.string (l.getD i default).sum) := h.2 i 0 hi (by decide)
theorem AtSide.c1 {w : World} {g : Nat} {l : List SideV} (h : AtSide w g l) (i : Nat) (hi : i < l.length) : w.cell? ⟨g, i * 2 + 1, none⟩ = some (.bool (l.getD i default).left) := h.2 i 1 hi (by decide)
theorem cellsSide {w : World} {x : Addr} {p : SideV} (h : ∀ j, j < 2 → w.cell? (x.add j) = (enSide p)[j]?) : w.cell? x = some (.string p.sum) ∧ w.cell? ⟨x.block, x.off + 1, none⟩ = some (.bool p.left) := by
  exact ⟨h 0 (by decide), h 1 (by decide)⟩
theorem partsSide {cs : List Value} {a0 a1 : Value} (hl : cs.length = 2) (h0 : (cs.drop 0).take 1 = [a0]) (h1 : (cs.drop 1).take 1 = [a1]) : cs = [a0, a1] := by
  match cs, hl with
  | [x0, x1], _ =>
    simp at h0 h1
    subst h0 h1
    rfl
theorem oneSide_b : Tryz.prog.cellsOf 4 = 1 := by kernel_rfl
theorem oneSide_s : Tryz.prog.cellsOf 9 = 1 := by kernel_rfl
theorem alloc3_midS (w : World) (o1 o2 o3 : Obj) : (((w.alloc o1).alloc o2).alloc o3).heap[w.heap.size + 1]? = some o2 := by
  have e : w.heap.size + 1 = (w.alloc o1).heap.size := by simp
  rw [e, Below.heap_alloc _ _ _ (by simp)]
  exact heap_alloc_new _ _
theorem infoSide : (Tryz.prog.info? 117).map (fun i => (i.zero, i.size, i.bytes)) = some (some (.agg #[.string ⟨#[]⟩, .bool false]), 2, 24) := by kernel_rfl
def zeroSide : SideV := ⟨⟨#[]⟩, false⟩
theorem makeSide (n : Nat) (hn : n ≤ 1099511627776) (w : World) : (Instr.makeSlice 28 (.int .i64 (n : Int)) (.int .i64 (n : Int))).run Tryz.prog w = .ok (.slice (some ⟨w.heap.size, 0, none⟩) n n) (w.alloc (.cells ((List.replicate n zeroSide).flatMap enSide).toArray 117)) := by
  obtain ⟨i, hi, hz, hs, hb⟩ := info_parts infoSide
  have hb' : (i.bytes : Int) * (n : Int) ≤ 281474976710656 := by rw [hb]; omega
  have hr := run_make (P := Tryz.prog) w 28 117 i _ Tryz.underlying28 hi hz .i64 .i64 (n : Int) (n : Int) (by omega) (by omega) hb' (by omega)
  simp only [Int.toNat_natCast, hs, Value.cells] at hr
  rw [← made_flat 2 enSide enSide_len (by decide) zeroSide n]
  exact hr
theorem RowSide.put {w : World} {g : Nat} {l : List SideV} (h : RowSide w g l) (i : Nat) (hi : i < l.length) (p : SideV) :
    RowSide ((w.setCell ⟨g, i * 2, none⟩ (.string p.sum)).setCell ⟨g, i * 2 + 1, none⟩ (.bool p.left)) g (l.set i p) := by
  show _ = _
  rw [← flat_put 2 enSide enSide_len l i p hi]
  exact (rowSet (rowSet h _) _)

end Go.Proofs.YtialhnocknogpaaGreatDoor

