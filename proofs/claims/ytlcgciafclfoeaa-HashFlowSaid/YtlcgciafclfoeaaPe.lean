/-
  The walks of the Reader's pieces zero and rest.
-/
import Derived.Test.YtlcgciafclfoeaaPd
namespace Go.Proofs.Ytlcgciafclfoeaa
open Go.RowKit
set_option maxRecDepth 100000

def AllZero (r : List UInt8) : Prop := ∀ i (h : i < r.length), r[i] = 0
end Go.Proofs.Ytlcgciafclfoeaa
