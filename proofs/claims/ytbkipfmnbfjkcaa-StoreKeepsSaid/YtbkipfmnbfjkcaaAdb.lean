/-
  The walks of Bytes, the program's and the document's own.
-/
import Derived.Test.YtbkipfmnbfjkcaaAdp
import Derived.Test.YtbkipfmnbfjkcaaLent
namespace Go.Proofs.Ytbkipfmnbfjkcaa
open Go.RowKit
attribute [local go_sem ↓] exec_span exec_put exec_build heap_alloc_new heap_old
attribute [local go_sem] spanQ_ptr spanC_some heap_of_drew rs_arr rs_ad putAt_ptr putOk_ptr oldOk_some built_none World.setRow_alloc_new
set_option maxRecDepth 100000
set_option linter.unusedVariables false

/-- an address's bytes, and the error. -/
def byB (v : Bool) (l : List UInt8) : List UInt8 := if rightL v l then l.take (sizeA v) else []
def byE (v : Bool) (l : List UInt8) : Int := if rightL v l then 0 else 1

theorem make_bytes (w : World) (n : Nat) (h : n ≤ 140737488355328) :
    (Instr.makeSlice 135 (.int .i64 (n : Int)) (.int .i64 (n : Int))).run Try.prog w = .ok (.slice (some ⟨w.heap.size, 0, none⟩) n n) (w.alloc (.cells (madeCells #[.int .u8 0] n) 5)) := by
  obtain ⟨i, hi, hz, hs, hb⟩ := info_parts info_u8
  have := run_make (P := Try.prog) w 135 5 i (.int .u8 0) Try.underlying135 hi hz .i64 .i64 (n : Int) (n : Int) (by omega) (by omega) (by rw [hb]; omega) (by omega)
  rw [this, hs]
  simp [Value.cells]

theorem below_row {w w' : World} (h : Below w.heap.size w w') (row : Option Nat) : w.grownBy w' row := ⟨h.os, h.tape, h.output, h.size, fun k hk _ => h.block k hk⟩

end Go.Proofs.Ytbkipfmnbfjkcaa
