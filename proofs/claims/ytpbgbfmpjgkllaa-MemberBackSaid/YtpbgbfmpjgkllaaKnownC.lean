/-
  The walk of the fixed calls of the cursor's statements: they answer true.
-/
import Derived.Test.YtpbgbfmpjgkllaaRunW
namespace Go.Proofs.Ytpbgbfmpjgkllaa
open Go.RowKit

def fixedOps : List (Int × Int) := [(0, 2), (2, 1), (3, 1)]
theorem fixed_one : runS [1, 2, 3, 0] fixedOps 0 = ([(258, []), (0, []), (0, [])], 4, 0) := by decide +kernel
theorem fixed_two : runS [1] fixedOps 0 = ([], 0, 10) := by decide +kernel

end Go.Proofs.Ytpbgbfmpjgkllaa
