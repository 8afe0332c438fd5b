/-
  The walk of the closure that Run hands on: piece after piece, up to the first error.
-/
import Derived.Test.YtlcgciafclfoeaaRunC
namespace Go.Proofs.Ytlcgciafclfoeaa
open Go.RowKit
set_option maxRecDepth 100000

end Go.Proofs.Ytlcgciafclfoeaa
