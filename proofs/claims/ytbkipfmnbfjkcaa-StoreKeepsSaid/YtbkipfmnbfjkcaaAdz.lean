/-
  The walk of the fixed calls of addr's statements: they answer true.
-/
import Derived.Test.YtbkipfmnbfjkcaaAdb
namespace Go.Proofs.Ytbkipfmnbfjkcaa
open Go.RowKit
attribute [local go_sem ↓] exec_span exec_put exec_build heap_alloc_new heap_old
attribute [local go_sem] spanQ_ptr spanC_some heap_of_drew rs_arr rs_ad putAt_ptr putOk_ptr oldOk_some built_none World.setRow_alloc_new
set_option maxRecDepth 100000
set_option linter.unusedVariables false

def knL : List UInt8 := [10, 1, 2, 3]
theorem kn_of : ofE knL = 0 ∧ ofV knL = false ∧ ofB knL = [10, 1, 2, 3, 0, 0, 0, 0, 0, 0, 0, 0, 0, 0, 0, 0] := by decide +kernel
def knB : List UInt8 := [10, 1, 2, 3, 0, 0, 0, 0, 0, 0, 0, 0, 0, 0, 0, 0]
def knM : List UInt8 := [10, 0, 0, 0, 0, 0, 0, 0, 0, 0, 0, 0, 0, 0, 0, 0]
theorem kn_mask : maskE false knB 12 = 0 ∧ maskV false knB 12 = false ∧ maskB false knB 12 = knM := by decide +kernel
theorem kn_bytes : byE false knM = 0 ∧ byB false knM = [10, 0, 0, 0] := by decide +kernel
theorem kn_within : withinS false knB false knM 12 = true := by decide +kernel
theorem kn_less : lessA false knM false knB = true := by decide +kernel

end Go.Proofs.Ytbkipfmnbfjkcaa
