/-
  The walk of the closure that Run hands on: piece after piece, up to the first error.
-/
import Derived.Test.YtpbgbfmpjgkllaaRunC
namespace Go.Proofs.Ytpbgbfmpjgkllaa
open Go.RowKit
set_option maxRecDepth 100000

end Go.Proofs.Ytpbgbfmpjgkllaa
