/-
  The program's iterator over bits keeps the contract of a range over a function.
-/
import Derived.Test.YtcaejndpmagfaaaDoorRiceGI2
set_option linter.unusedVariables false
namespace Go.Proofs.YtcaejndpmagfaaaDoor
open Go.RowKit Go.Shelf
attribute [local go_sem] Oper.semAt_some

def KeepsAt (Bs : Nat) (W W' : World) : Prop := W'.cell? ⟨Bs, 0, none⟩ = W.cell? ⟨Bs, 0, none⟩
theorem KeepsAt.t {Bs : Nat} {A B C : World} (h : KeepsAt Bs A B) (k : KeepsAt Bs B C) : KeepsAt Bs A C := Eq.trans k h
theorem KeepsAt.b {Bs : Nat} {w : World} (hb : Bs < w.heap.size) (W : World) (l : Nat) (o o' : Obj) (hl : w.heap.size ≤ l) (h : W.heap[l]? = some o) (_ : o.isCells = false) (_ : o.isWalk = false) : KeepsAt Bs W (W.putObj l o') := by
  have hB : Below (Bs + 1) W (W.putObj l o') := belowK_b (w := w) (by omega) W l o o' hl h (by assumption) (by assumption)
  exact hB.cell (p := ⟨Bs, 0, none⟩) (by show Bs < Bs + 1; omega)

theorem bits_stops (F : Fence) (n : Nat) (hf : F.fn 86) (hro : F.round = none) (hn : 1 ≤ n) (Bs : Nat) (s : ByteArray) (hs : s.size ≤ 600) (w : World) (hBs : Bs < w.heap.size) (hc : w.cell? ⟨Bs, 0, none⟩ = some (.string s)) :
    SeqStopsK F n Tryd.prog 86 #[.pointer (some ⟨Bs, 0, none⟩)] (fun x : Bit => #[Value.int .i64 ((x.1 : Nat) : Int)]) (KeepsAt Bs) (fun ys => ys = bitsTo s (8 * s.size)) (fun pre => ∃ k, k ≤ 8 * s.size ∧ pre = bitsTo s k) (8 * s.size) w := fun l J Jx W hW _ _ hY h0 => by
  have hc' := (hW.cell (p := ⟨Bs, 0, none⟩) hBs).trans hc
  exact bitsIter F n hf hro hn l Bs s hs J Jx hY W hc' h0

set_option maxHeartbeats 2000000 in
set_option maxRecDepth 100000 in
/-- riceBits: the closure over the text, which lies in a box. -/
theorem bitsMake (F : Fence) (n : Nat) (hf : F.fn 64) (hro : F.round = none) (s : ByteArray) (w : World) :
    CallsIn F n Tryd.prog 64 #[.string s] w fun e w' => e = .returned (.func (.func 86) #[] #[.pointer (some ⟨w.heap.size, 0, none⟩)]) ∧ w' = w.alloc (.cells #[.string s] 9) := by
  refine callsIn_of_wp Tryd.func64 rfl hf ?_ hro
  simp only [Tryd.ntmps64, List.size_toArray, List.length_cons, List.length_nil, Nat.reduceAdd, Nat.reduceSub, Array.replicate_succ, Array.replicate_zero, List.push_toArray, List.append_toArray, List.nil_append, List.cons_append]
  gi_wp2
  go_ret
  exact ⟨rfl, rfl⟩

end Go.Proofs.YtcaejndpmagfaaaDoor
