/-
  The walk of the statement SegmentProto.
-/
import Derived.Test.YtcfckhdohcaffaaKq
import Derived.Deep.RegionHeld3
namespace Go.Proofs.Ytcfckhdohcaffaa
open Go.RowKit
attribute [local go_sem ↓] exec_span exec_put exec_build heap_alloc_new heap_old heap_alloc_drew
attribute [local go_sem] spanQ_ptr spanC_some heap_of_drew heap_of_drewN rs_arr rs_ad rs_ip rs_rip rs_seg rs_rseg putAt_ptr putOk_ptr oldOk_some World.setRow_alloc_new setRow_drew
set_option maxRecDepth 100000
set_option linter.unusedVariables false
set_option linter.unusedSimpArgs false

theorem InP.within {W : World} {X : Array Value} {h : Ip} {O D : List UInt8} (p : InP W X h O D) : Calls Try.prog 9 #[.agg X] W fun e w' => Given W h O D e w' :=
  withinH5_any W X h p.x O D p.o p.ol p.d p.dl p.oc p.dc (by have := p.om; omega) (by have := p.dm; omega)
theorem InS.given {W : World} {X : Array Value} {s : Sg} {O D : List UInt8} (p : InS W X s O D) : Calls Try.prog 7 #[.agg X] W fun e w' => GivenS W s O D e w' :=
  givenS_any W X s p.x O D p.o p.ol p.d p.dl p.oc p.dc (by have := p.om; omega) (by have := p.dm; omega)
theorem segE_giv (h : Ip) (g1 g2 : Nat) (D : List UInt8) : segE (givH h g1 g2) D = segE h D := rfl
/-- Parse of what is lent. -/
theorem parseG {w : World} {X : Array Value} {h : Ip} {O D : List UInt8} (p : InP w X h O D) (W1 : World) (g1 g2 : Nat) (L2 : Lentd W1 g2 D) :
    Calls Try.prog 15 #[.agg (ipL (givH h g1 g2)).toArray] W1 fun e w' => ParS W1 (givH h g1 g2) D e w' :=
  parseS_any W1 _ (givH h g1 g2) ⟨rfl, p.x.ls, p.x.ld⟩ D (L2.byt L2.lt) p.dl (Nat.le_add_right _ _) (Nat.le_trans p.dm (by decide))
theorem built_noneRS : Try.prog.built 30 [] = some (sgL nSg).toArray := by kernel_rfl

end Go.Proofs.Ytcfckhdohcaffaa
