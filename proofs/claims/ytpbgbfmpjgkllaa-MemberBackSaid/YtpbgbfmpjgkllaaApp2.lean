/-
  The builtin append, of rows whose elements have two cells each.
-/
import Derived.Test.YtpbgbfmpjgkllaaSame
import Derived.Test.YtpbgbfmpjgkllaaOr
namespace Go.Proofs.Ytpbgbfmpjgkllaa
open Go.RowKit
set_option maxRecDepth 100000
set_option linter.unusedVariables false
set_option linter.unusedSimpArgs false

theorem info_refval : (Try.prog.info? 92).map (fun i => (i.zero, i.size, i.bytes)) = some (some (.agg #[.int .u64 0, .slice none 0 0]), 2, 32) := by kernel_rfl
theorem length_itemCells (l : List VItem) : (itemCells l).length = l.length * 2 := by
  induction l with
  | nil => rfl
  | cons a l ih => rw [itemCells, List.flatMap_cons, ← itemCells, List.length_append, ih]; simp; omega
end Go.Proofs.Ytpbgbfmpjgkllaa
