/-
  The walk of the statement HeaderPseudo.
-/
import Derived.Test.YtcfckhdohcaffaaJk
import Derived.Test.YtcfckhdohcaffaaRowP
import Derived.Deep.RegionHeld3
namespace Go.Proofs.Ytcfckhdohcaffaa
open Go.RowKit
attribute [local go_sem ↓] exec_span exec_put exec_build heap_alloc_new heap_old
attribute [local go_sem] spanQ_ptr spanC_some heap_of_drew heap_of_drewN rs_arr rs_ad rs_ip rs_rip putAt_ptr putOk_ptr oldOk_some World.setRow_alloc_new
set_option maxRecDepth 100000
set_option linter.unusedVariables false
set_option linter.unusedSimpArgs false

theorem InP.below {W W' : World} {X : Array Value} {h : Ip} {O D : List UInt8} (p : InP W X h O D) (hb : Below W.heap.size W W') : InP W' X h O D :=
  ⟨p.x, (p.o.below hb).more hb.size, p.ol, p.oc, p.om, p.on, (p.d.below hb).more hb.size, p.dl, p.dc, p.dm, p.dn⟩
end Go.Proofs.Ytcfckhdohcaffaa
