/-
  The fixed calls of steelyardlaw04.
-/
import Derived.Test.YtcfckhdohcaffaaJb
namespace Go.Proofs.Ytcfckhdohcaffaa
open Go.RowKit
attribute [local go_sem ↓] exec_span exec_put exec_build heap_alloc_new heap_old
attribute [local go_sem] spanQ_ptr spanC_some heap_of_drew heap_of_drewN rs_arr rs_ad rs_ip rs_rip putAt_ptr putOk_ptr oldOk_some World.setRow_alloc_new
set_option maxRecDepth 100000
set_option linter.unusedVariables false
set_option linter.unusedSimpArgs false

theorem built_k1 : Try.prog.built 36 [(3, .int .i64 17), (4, .int .i64 64)] = some (ipL (nIp 17 64 0 0 false)).toArray := by kernel_rfl
def four (x : UInt8) : List UInt8 := [10, 0, 0, x] ++ List.replicate 12 0
theorem built_k2 (x : UInt8) : Try.prog.built 22 [(0, .int .u8 10), (1, .int .u8 0), (2, .int .u8 0), (3, .int .u8 (x.toNat : Int))] = some ((four x).map byteV).toArray := by kernel_rfl

/-- the fixed packet, and its bytes. -/
def hK : Ip := ⟨false, false, four 1, false, four 2, 17, 64, 0, 0, false, 0, none, 0, 0, none, 0, 0⟩
def kB : List UInt8 := [69, 0, 0, 20, 0, 0, 0, 0, 64, 17, 102, 215, 10, 0, 0, 1, 10, 0, 0, 2]
theorem hK_E : pktE hK = 0 := by decide +kernel
theorem hK_B : pktB hK [] [] = kB := by decide +kernel
theorem kB_E : pkE kB = 0 := by decide +kernel

end Go.Proofs.Ytcfckhdohcaffaa
