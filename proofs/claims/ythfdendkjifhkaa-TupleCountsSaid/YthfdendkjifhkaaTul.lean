/-
  The walks of the order of tuples.
-/
import Derived.Test.YthfdendkjifhkaaTup
namespace Go.Proofs.Ythfdendkjifhkaa
open Go.RowKit
attribute [local go_sem ↓] exec_span exec_put exec_build heap_alloc_new heap_old
attribute [local go_sem] spanQ_ptr spanC_some heap_of_drew heap_of_drewN rs_arr rs_ad rs_tup putAt_ptr putOk_ptr oldOk_some built_none World.setRow_alloc_new
set_option maxRecDepth 100000
set_option linter.unusedVariables false
set_option linter.unusedSimpArgs false

/-- which of two stands ahead. -/
def lessT (t u : Tup) : Bool :=
  if t.p = u.p then
    if t.sv = u.sv ∧ t.sb = u.sb then
      if t.dv = u.dv ∧ t.db = u.db then
        if t.s = u.s then decide (t.d < u.d) else decide (t.s < u.s)
      else lessA t.dv t.db u.dv u.db
    else lessA t.sv t.sb u.sv u.sb
  else decide (t.p < u.p)

end Go.Proofs.Ythfdendkjifhkaa
