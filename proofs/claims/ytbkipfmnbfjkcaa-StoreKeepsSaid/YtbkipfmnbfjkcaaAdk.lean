/-
  The walks of the first bits of an address: Mask and Within, the program's and the document's own.
-/
import Derived.Test.YtbkipfmnbfjkcaaAdl
namespace Go.Proofs.Ytbkipfmnbfjkcaa
open Go.RowKit
attribute [local go_sem ↓] exec_span exec_put exec_build
attribute [local go_sem] spanQ_ptr spanC_some heap_of_drew rs_arr rs_ad putAt_ptr putOk_ptr oldOk_some built_none built_kind
set_option maxRecDepth 100000
set_option linter.unusedVariables false

/-- what a masked address is, and the error. -/
def maskOk (v : Bool) (l : List UInt8) (n : Int) : Bool := rightL v l && decide (0 ≤ n) && decide (n ≤ ((8 * sizeA v : Nat) : Int))
def maskV (v : Bool) (l : List UInt8) (n : Int) : Bool := maskOk v l n && v
def maskB (v : Bool) (l : List UInt8) (n : Int) : List UInt8 := if maskOk v l n then maskL l n.toNat else List.replicate 16 0
def maskE (v : Bool) (l : List UInt8) (n : Int) : Int := if maskOk v l n then 0 else 1
theorem length_maskB (v : Bool) (l : List UInt8) (n : Int) (h : l.length = 16) : (maskB v l n).length = 16 := by
  unfold maskB; split
  · rw [length_maskL, h]
  · simp


theorem mask_no {v : Bool} {l : List UInt8} {n : Int} (h : maskOk v l n = false) : maskE v l n = 1 := by unfold maskE; rw [h]; rfl
theorem mask_noV {v : Bool} {l : List UInt8} {n : Int} (h : maskOk v l n = false) : maskV v l n = false := by unfold maskV; rw [h]; rfl
theorem mask_noB {v : Bool} {l : List UInt8} {n : Int} (h : maskOk v l n = false) : maskB v l n = List.replicate 16 0 := by unfold maskB; rw [h]; rfl
theorem mask_yes {v : Bool} {l : List UInt8} {n : Int} (h : maskOk v l n = true) : maskE v l n = 0 := by unfold maskE; rw [h]; rfl
theorem mask_yesV {v : Bool} {l : List UInt8} {n : Int} (h : maskOk v l n = true) : maskV v l n = v := by unfold maskV; rw [h]; rfl
theorem mask_yesB {v : Bool} {l : List UInt8} {n : Int} (h : maskOk v l n = true) : maskB v l n = maskL l n.toNat := by unfold maskB; rw [h]; rfl

theorem row_kept {B : Nat} {W w2 : World} {g : Nat} {o : Obj} (hb : Below B W w2) (hg : g < B) (h : W.heap[g]? = some o) : w2.heap[g]? = some o := (hb.block g hg).trans h

end Go.Proofs.Ytbkipfmnbfjkcaa
