/-
  The walks of Within: are two addresses alike in so many first bits, the program's and the document's own.
-/
import Derived.Test.YtbkipfmnbfjkcaaAdq
namespace Go.Proofs.Ytbkipfmnbfjkcaa
open Go.RowKit
attribute [local go_sem ↓] exec_span exec_put exec_build heap_alloc_new heap_old
attribute [local go_sem] spanQ_ptr spanC_some heap_of_drew rs_arr rs_ad putAt_ptr putOk_ptr oldOk_some built_none World.setRow_alloc_new
set_option maxRecDepth 100000
set_option linter.unusedVariables false

def withinS (v : Bool) (l : List UInt8) (v' : Bool) (l' : List UInt8) (n : Int) : Bool := maskOk v l n && maskOk v' l' n && (v == v' && maskL l n.toNat == maskL l' n.toNat)


theorem within_yes {v v' : Bool} {l l' : List UInt8} {n : Int} (h : maskOk v l n = true) (h' : maskOk v' l' n = true) : (maskV v l n == maskV v' l' n && maskB v l n == maskB v' l' n) = withinS v l v' l' n := by
  unfold withinS
  rw [h, h', mask_yesV h, mask_yesV h', mask_yesB h, mask_yesB h']
  rfl
theorem within_no {v v' : Bool} {l l' : List UInt8} {n : Int} (h : ¬ (maskOk v l n = true ∧ maskOk v' l' n = true)) : withinS v l v' l' n = false := by
  unfold withinS
  cases h1 : maskOk v l n <;> cases h2 : maskOk v' l' n <;> simp_all

end Go.Proofs.Ytbkipfmnbfjkcaa
