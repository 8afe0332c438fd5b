/-
  The walks of Of and Bytes: addresses as bytes, there and back, the program's and the document's own.
-/
import Derived.Test.YtbkipfmnbfjkcaaAdw
namespace Go.Proofs.Ytbkipfmnbfjkcaa
open Go.RowKit
attribute [local go_sem ↓] exec_span exec_put exec_build heap_alloc_new heap_old
attribute [local go_sem] spanQ_ptr spanC_some heap_of_drew rs_arr rs_ad putAt_ptr putOk_ptr oldOk_some built_none World.setRow_alloc_new
set_option maxRecDepth 100000
set_option linter.unusedVariables false

/-- some bytes, and 0 behind them, sixteen in all. -/
def padL (l : List UInt8) : List UInt8 := l ++ List.replicate (16 - l.length) 0
theorem length_padL {l : List UInt8} (h : l.length ≤ 16) : (padL l).length = 16 := by simp [padL]; omega

theorem splice_pad (v : Bool) (l : List UInt8) (h : l.length ≤ 16) : splice (adL v (List.replicate 16 0)) 1 (l.map byteV) = adL v (padL l) := by
  unfold splice adL padL
  rw [List.take_succ_cons, List.take_zero, List.singleton_append, List.map_append, List.length_map, Nat.add_comm 1, List.drop_succ_cons, List.map_replicate, List.drop_replicate, List.map_replicate]

/-- what comes of bytes as an address, and the error. -/
def ofV (l : List UInt8) : Bool := l.length == 16
def ofB (l : List UInt8) : List UInt8 := if l.length = 4 ∨ l.length = 16 then padL l else List.replicate 16 0
def ofE (l : List UInt8) : Int := if l.length = 4 ∨ l.length = 16 then 0 else 3
theorem length_ofB (l : List UInt8) : (ofB l).length = 16 := by
  unfold ofB
  split
  · next h => exact length_padL (by omega)
  · simp

end Go.Proofs.Ytbkipfmnbfjkcaa
