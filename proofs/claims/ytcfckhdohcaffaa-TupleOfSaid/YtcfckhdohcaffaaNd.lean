/-
  The walks of tuple's Counts: Copy, Total; of the document's Counts.
-/
import Derived.Test.YtcfckhdohcaffaaNc
namespace Go.Proofs.Ytcfckhdohcaffaa
open Go.RowKit
theorem rs_cnA : rowSize Try.prog 116 = some 12 := by kernel_rfl
attribute [local go_sem ↓] exec_span exec_put exec_build heap_alloc_new heap_old
attribute [local go_sem] spanQ_ptr spanC_some heap_of_drew heap_of_drewN rs_cnt rs_cnA putAt_ptr putOk_ptr oldOk_some World.setRow_alloc_new
set_option maxRecDepth 100000
set_option linter.unusedVariables false
set_option linter.unusedSimpArgs false

theorem u64_one (l : List Nat) : allOne (l.map u64V).toArray = true := by
  unfold allOne
  rw [Array.all_eq_true']
  intro x hx
  simp at hx
  obtain ⟨n, -, rfl⟩ := hx
  rfl
def totL (l : List Nat) : Nat := l.foldl (fun a n => togS a n 18446744073709551615) 0
theorem tot_le (l : List Nat) : ∀ a, a ≤ 18446744073709551615 → l.foldl (fun a n => togS a n 18446744073709551615) a ≤ 18446744073709551615 := by
  induction l with
  | nil => intro a h; exact h
  | cons n t ih => intro a h; exact ih _ (togS_le h)
theorem tot_succ (l : List Nat) (j : Nat) (h : j < l.length) : totL (l.take (j + 1)) = togS (totL (l.take j)) l[j] 18446744073709551615 := by
  unfold totL
  rw [List.take_succ_eq_append_getElem h, List.foldl_append]
  rfl
theorem index_u64 (w : World) (Y : Array Value) (j : Nat) (v : Value) (hj : j < 12) (hy : Y[j]? = some v) : (Instr.index 116 (.agg Y) (.int .i64 (j : Int))).run Try.prog w = .ok v w := by
  have e1 : (isAgg 76).run Try.prog w = .ok false w := by kernel_rfl
  have e2 : (sizeOf 76).run Try.prog w = .ok 1 w := by kernel_rfl
  have hi : (0 : Int) ≤ (j : Int) ∧ (j : Int) < ((12 : Nat) : Int) := by omega
  simp [Instr.index, asIntOf, run_underlying Try.underlying116, part, e1, e2, hi.1, hj, hy, go_sem]
end Go.Proofs.Ytcfckhdohcaffaa
