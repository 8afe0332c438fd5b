/-
  The walks of steelyardlaw05.within, given and taken.
-/
import Derived.Test.YtdlilokmfekndaaJb
import Derived.Test.YtdlilokmfekndaaMka
import Derived.Deep.RegionHeld3
namespace Go.Proofs.Ytdlilokmfekndaa
open Go.RowKit
attribute [local go_sem ↓] exec_span exec_put exec_build heap_alloc_new heap_old
attribute [local go_sem] spanQ_ptr spanC_some heap_of_drew heap_of_drewN rs_arr rs_ad rs_ip rs_rip putAt_ptr putOk_ptr oldOk_some World.setRow_alloc_new
set_option maxRecDepth 100000
set_option linter.unusedVariables false
set_option linter.unusedSimpArgs false

theorem rs_rseg : rowSize Try.prog 61 = some 11 := by kernel_rfl
theorem info_seg : (Try.prog.info? 53).map (·.size) = some 11 := by kernel_rfl
theorem info_rseg : (Try.prog.info? 61).map (·.size) = some 11 := by kernel_rfl
attribute [local go_sem] rs_seg rs_rseg
/-- the parts that a segment is made of. -/
def sgP (s : Sg) : List (Nat × Value) := [(0, .int .i64 s.p), (1, .int .i64 s.a), (2, .int .i64 s.b), (3, .int .u32 (s.q : Int)), (4, .int .u32 (s.k : Int)), (5, .int .i64 s.f), (6, .int .i64 s.wn), (7, .int .i64 s.u), (8, .bool s.ns), (9, .slice s.ao s.no s.co), (10, .slice s.ad s.nd s.cd)]
theorem built_sg (s : Sg) : Try.prog.built 53 (sgP s) = some (sgL s).toArray := by kernel_rfl
theorem built_rsg (s : Sg) : Try.prog.built 61 (sgP s) = some (sgL s).toArray := by kernel_rfl
def nSg : Sg := ⟨0, 0, 0, 0, 0, 0, 0, 0, false, none, 0, 0, none, 0, 0⟩
theorem nSg_ok : SgV (sgL nSg).toArray nSg := ⟨rfl, by decide, by decide⟩
/-- the segment as the program has it: its lists in new memory, marks behind them. -/
def givS (s : Sg) (g1 g2 : Nat) : Sg := { s with ao := some ⟨g1, 0, none⟩, co := s.no + 8, ad := some ⟨g2, 0, none⟩, cd := s.nd + 8 }
def GivenS (w : World) (s : Sg) (O D : List UInt8) (e : Ending) (w' : World) : Prop := ∃ g1 g2, e = .returned (.agg (sgL (givS s g1 g2)).toArray) ∧ Lentd w' g1 O ∧ Lentd w' g2 D ∧ w.heap.size ≤ g1 ∧ w.heap.size ≤ g2 ∧ Below w.heap.size w w'

end Go.Proofs.Ytdlilokmfekndaa
