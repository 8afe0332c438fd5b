/-
  The walks of the document's own Of, and of Bytes, the program's and the document's own.
-/
import Derived.Test.YtbkipfmnbfjkcaaAdo
namespace Go.Proofs.Ytbkipfmnbfjkcaa
open Go.RowKit
attribute [local go_sem ↓] exec_span exec_put exec_build heap_alloc_new heap_old
attribute [local go_sem] spanQ_ptr spanC_some heap_of_drew rs_arr rs_ad putAt_ptr putOk_ptr oldOk_some built_none World.setRow_alloc_new
set_option maxRecDepth 100000
set_option linter.unusedVariables false

theorem padL_step {l : List UInt8} {j : Nat} (hj : j < l.length) (hl : l.length ≤ 16) : (padL (l.take j)).set j l[j] = padL (l.take (j + 1)) := by
  unfold padL
  rw [List.length_take, List.length_take, Nat.min_eq_left (by omega), Nat.min_eq_left (by omega)]
  apply List.ext_getElem
  · simp; omega
  · intro k h1 h2
    rw [List.getElem_set]
    split
    · next e =>
      subst e
      rw [List.getElem_append_left (by simp; omega)]
      simp
    · next e =>
      rcases Nat.lt_or_ge k j with hk | hk
      · rw [List.getElem_append_left (by simp; omega), List.getElem_append_left (by simp; omega)]
        simp
      · rw [List.getElem_append_right (by simp; omega), List.getElem_append_right (by simp; omega)]
        simp


end Go.Proofs.Ytbkipfmnbfjkcaa
