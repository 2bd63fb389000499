/-
  The specification's sum of a text: the first 64 bits of SHA-256, in figures.
-/
import Derived.Test.YtjeldedjhlicmaaDoorShaS3
set_option linter.unusedVariables false
namespace Go.Proofs.YtjeldedjhlicmaaDoor
open Go.RowKit

def sha0 : St := ⟨1779033703, 3144134277, 1013904242, 2773480762, 1359893119, 2600822924, 528734635, 1541459225⟩
def shaK : List Nat := [1116352408, 1899447441, 3049323471, 3921009573, 961987163, 1508970993, 2453635748, 2870763221, 3624381080, 310598401, 607225278, 1426881987, 1925078388, 2162078206, 2614888103, 3248222580, 3835390401, 4022224774, 264347078, 604807628, 770255983, 1249150122, 1555081692, 1996064986, 2554220882, 2821834349, 2952996808, 3210313671, 3336571891, 3584528711, 113926993, 338241895, 666307205, 773529912, 1294757372, 1396182291, 1695183700, 1986661051, 2177026350, 2456956037, 2730485921, 2820302411, 3259730800, 3345764771, 3516065817, 3600352804, 4094571909, 275423344, 430227734, 506948616, 659060556, 883997877, 958139571, 1322822218, 1537002063, 1747873779, 1955562222, 2024104815, 2227730452, 2361852424, 2428436474, 2756734187, 3204031479, 3329325298]
theorem sha0_ok : sha0.ok := by refine ⟨?_, ?_, ?_, ?_, ?_, ?_, ?_, ?_⟩ <;> decide
theorem shaK_ok : ∀ x ∈ shaK, x < 4294967296 := by decide
def kCells : Array Value := (shaK.map fun n : Nat => Value.int .i64 (n : Int)).toArray
def hCells : Array Value := (sha0.toL.map fun n : Nat => Value.int .i64 (n : Int)).toArray

set_option maxHeartbeats 1000000 in
set_option maxRecDepth 100000 in
theorem specConsts (w : World) :
    Calls Tryd.prog 110 #[] w fun e w' => e = .returned (.tuple #[.slice (some ⟨w.heap.size, 0, none⟩) 8 8, .slice (some ⟨w.heap.size + 1, 0, none⟩) 64 64]) ∧ RowN 3 w' w.heap.size sha0.toL ∧ RowN 3 w' (w.heap.size + 1) shaK ∧ Below w.heap.size w w' := by
  go_enter Tryd.func110, Tryd.ntmps110
  go_wp2
  go_ret2
  refine ⟨rfl, ?_, ?_, ((Below.refl _ w).alloc (Nat.le_refl _) _).alloc (by simp) _⟩
  · show _ = _
    rw [Below.heap_alloc _ _ _ (by simp)]
    exact heap_alloc_new w _
  · have := heap_alloc_new (w.alloc (.cells hCells 3)) (.cells kCells 3)
    rw [show (w.alloc (.cells hCells 3)).heap.size = w.heap.size + 1 from by simp] at this
    exact this

/-- Pieces mixed in, one by one. -/
def mixTo (b : List Nat) : Nat → St
  | 0 => sha0
  | k + 1 => mix shaK (mixTo b k) ((b.drop (64 * k)).take 64)
theorem mixTo_ok (b : List Nat) (k : Nat) : (mixTo b k).ok := by
  cases k with
  | zero => exact sha0_ok
  | succ k => exact St.plus_ok _ _
def sha (t : List UInt8) : St := mixTo (padN t) (padLen t.length / 64)
def sumB (t : List UInt8) : List UInt8 := hexOf (sha t).a ++ hexOf (sha t).b

end Go.Proofs.YtjeldedjhlicmaaDoor
