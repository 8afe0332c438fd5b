/-
  The walks of the Reader's pieces: skip, zero, rest.
-/
import Derived.Test.YtpbgbfmpjgkllaaPc
import Derived.Deep.RegionWith
namespace Go.Proofs.Ytpbgbfmpjgkllaa
open Go.RowKit
set_option maxRecDepth 100000

theorem wrap_in (n : Int) (h1 : -9223372036854775808 ≤ n) (h2 : n ≤ 9223372036854775807) : IntKind.i64.wrap n = n := by rw [IntKind.wrap_i64]; omega

end Go.Proofs.Ytpbgbfmpjgkllaa
