/-
  A Reader's piece of whatever kind and size: what it was, or the error by which it gives up.
-/
import Derived.Test.YtpbgbfmpjgkllaaPiece
namespace Go.Proofs.Ytpbgbfmpjgkllaa
open Go.RowKit
set_option maxRecDepth 100000

/-- what was read stands within the bytes. -/
theorem pieceS_le {l : List UInt8} {k N m : Nat} {kd sz : Int} {b : List UInt8} (h : pieceS l k kd sz = .got N b m) (hk : k ≤ l.length) : k + m ≤ l.length := by
  unfold pieceS at h
  repeat' split at h
  all_goals first | cases h | skip
  all_goals omega
end Go.Proofs.Ytpbgbfmpjgkllaa
