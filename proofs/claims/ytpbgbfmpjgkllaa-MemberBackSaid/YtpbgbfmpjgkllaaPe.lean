/-
  The walks of the Reader's pieces zero and rest.
-/
import Derived.Test.YtpbgbfmpjgkllaaPd
namespace Go.Proofs.Ytpbgbfmpjgkllaa
open Go.RowKit
set_option maxRecDepth 100000

def AllZero (r : List UInt8) : Prop := ∀ i (h : i < r.length), r[i] = 0
/-- what becomes of a run of bytes that must be 0. -/
def ZeroPost (w : World) (g : Nat) (A : Option Addr) (l : List UInt8) (c k m : Nat) (er : Int) (r : List UInt8) (e : Ending) (w' : World) : Prop :=
  (AllZero r ∧ e = .returned (.tuple #[]) ∧ Rd w' g A l.length c (k + m) er ∧ w.grownBy w' (some g)) ∨ (¬ AllZero r ∧ e = giveUp 11 ∧ ∃ q, w' = w.drewN q)

end Go.Proofs.Ytpbgbfmpjgkllaa
