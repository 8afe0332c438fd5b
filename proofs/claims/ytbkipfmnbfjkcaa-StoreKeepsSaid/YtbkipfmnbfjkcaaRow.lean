/-
  Words for the rows of this seat: an argument that is a slice of bytes, opened to a list of bytes that is within the form's own reach.
-/
import Derived.Test.YtbkipfmnbfjkcaaRows
import Derived.Test.YtbkipfmnbfjkcaaBase
import Derived.WalkKit
import Derived.ProofKit
import Derived.OpenShut
import Derived.ShutString
import Derived.ChangeOld
import Derived.Below
import Derived.SizedLaws
namespace Go.Proofs.Ytbkipfmnbfjkcaa
open Go.ChangeShapes Go.WideShapes Go.ChangeAt Go.RowKit

theorem ownK : ownKnob Try.prog.godebug = none := by kernel_rfl
theorem laidOutK : laidOutB Try.prog = true := by kernel_rfl
theorem bytes_u8 : Try.prog.bytesOf 5 = 1 := by kernel_rfl
theorem cells_u8 : Try.prog.cellsOf 5 = 1 := by kernel_rfl

/-! what the bound on the bulk gives -/
theorem bulk_pos {H : Type} (d : DataW H) : 0 < Rows.uptoBulk d := by
  cases d with
  | lit x => cases x <;> simp [Rows.uptoBulk]
  | _ => simp [Rows.uptoBulk]
theorem bulk_count {H : Type} (l : List (DataW H)) : l.length ≤ Rows.uptoBulkAll l := by
  induction l with
  | nil => exact Nat.zero_le _
  | cons d l ih => have := bulk_pos d; rw [Rows.uptoBulkAll, List.length_cons]; omega
theorem bulk_of_mem {H : Type} {d : DataW H} {l : List (DataW H)} (h : d ∈ l) : Rows.uptoBulk d ≤ Rows.uptoBulkAll l := by
  induction h with
  | head l => rw [Rows.uptoBulkAll]; omega
  | tail x _ ih => rw [Rows.uptoBulkAll]; omega
theorem bulk_bytes {H : Type} {elems spare : List (DataW H)} {l : List (DataW H)} (hk : Rows.uptoSmall H l = true) (h : DataW.slice elems spare ∈ l) :
    (elems.length + spare.length) * Try.prog.bytesOf 5 ≤ 1048576 := by
  have h1 : Rows.uptoBulkAll l ≤ 1048576 := of_decide_eq_true hk
  have h2 := bulk_of_mem h
  have h3 := bulk_count elems
  have h4 := bulk_count spare
  rw [Rows.uptoBulk] at h2
  rw [bytes_u8]; omega

end Go.Proofs.Ytbkipfmnbfjkcaa
