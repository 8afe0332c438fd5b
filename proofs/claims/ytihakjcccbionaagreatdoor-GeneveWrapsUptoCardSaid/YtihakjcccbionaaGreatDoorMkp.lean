import Derived.Test.YtihakjcccbionaaGreatDoorJb
import Derived.Test.YtihakjcccbionaaGreatDoorMrw
import Derived.Deep.RegionHeld3
import Derived.Test.YtihakjcccbionaaGreatDoorMkn
import Derived.Test.YtihakjcccbionaaGreatDoorMkl
import Derived.Lib.SlBytesConst
section
/-
  The fixed calls of steelyardlaw04.
-/
namespace Go.Proofs.YtihakjcccbionaaGreatDoor
open Go.RowKit
attribute [local go_sem ↓] exec_span exec_put exec_build heap_alloc_new heap_old
attribute [local go_sem] spanQ_ptr spanC_some heap_of_drew heap_of_drewN rs_arr rs_ad rs_ip rs_rip putAt_ptr putOk_ptr oldOk_some World.setRow_alloc_new
set_option maxRecDepth 100000
set_option linter.unusedVariables false
set_option linter.unusedSimpArgs false

theorem built_k1 : Tryz.prog.built 51 [(3, .int .i64 17), (4, .int .i64 64)] = some (ipL (nIp 17 64 0 0 false)).toArray := by kernel_rfl
def four (x : UInt8) : List UInt8 := [10, 0, 0, x] ++ List.replicate 12 0
theorem built_k2 (x : UInt8) : Tryz.prog.built 22 [(0, .int .u8 10), (1, .int .u8 0), (2, .int .u8 0), (3, .int .u8 (x.toNat : Int))] = some ((four x).map byteV).toArray := by kernel_rfl

/-- the fixed packet, and its bytes. -/
def hK : Ip := ⟨false, false, four 1, false, four 2, 17, 64, 0, 0, false, 0, none, 0, 0, none, 0, 0⟩
def kB : List UInt8 := [69, 0, 0, 20, 0, 0, 0, 0, 64, 17, 102, 215, 10, 0, 0, 1, 10, 0, 0, 2]
theorem hK_E : pktE hK = 0 := by decide +kernel
theorem hK_B : pktB hK [] [] = kB := by decide +kernel
theorem kB_E : pkE kB = 0 := by decide +kernel

end Go.Proofs.YtihakjcccbionaaGreatDoor

end
section
/-
  The walk of the statement HeaderPseudo.
-/
namespace Go.Proofs.YtihakjcccbionaaGreatDoor
open Go.RowKit
attribute [local go_sem ↓] exec_span exec_put exec_build heap_alloc_new heap_old
attribute [local go_sem] spanQ_ptr spanC_some heap_of_drew heap_of_drewN rs_arr rs_ad rs_ip rs_rip putAt_ptr putOk_ptr oldOk_some World.setRow_alloc_new
set_option maxRecDepth 100000
set_option linter.unusedVariables false
set_option linter.unusedSimpArgs false

theorem InP.below {W W' : World} {X : Array Value} {h : Ip} {O D : List UInt8} (p : InP W X h O D) (hb : Below W.heap.size W W') : InP W' X h O D :=
  ⟨p.x, (p.o.below hb).more hb.size, p.ol, p.oc, p.om, p.on, (p.d.below hb).more hb.size, p.dl, p.dc, p.dm, p.dn⟩
end Go.Proofs.YtihakjcccbionaaGreatDoor

end
section
/-
  The fixed calls of steelyardlaw05.
-/
namespace Go.Proofs.YtihakjcccbionaaGreatDoor
open Go.RowKit
attribute [local go_sem ↓] exec_span exec_put exec_build heap_alloc_new heap_old heap_alloc_drew
attribute [local go_sem] spanQ_ptr spanC_some heap_of_drew heap_of_drewN rs_arr rs_ad rs_ip rs_rip rs_seg putAt_ptr putOk_ptr oldOk_some World.setRow_alloc_new setRow_drew
set_option maxRecDepth 100000
set_option linter.unusedVariables false
set_option linter.unusedSimpArgs false

theorem built_k5 : Tryz.prog.built 51 [(3, .int .i64 17)] = some (ipL (nIp 17 0 0 0 false)).toArray := by kernel_rfl
def hK5 (ad : Option Addr) (nd cd : Nat) : Ip := ⟨false, false, four 1, false, four 2, 17, 0, 0, 0, false, 0, none, 0, 0, ad, nd, cd⟩
def sK5 (g : Nat) : Sg := ⟨17, 1, 2, 0, 0, 0, 0, 0, false, none, 0, 0, some ⟨g, 0, none⟩, 1, 1⟩
def kB5 : List UInt8 := [0, 1, 0, 2, 0, 9, 138, 214, 97]
theorem built_s5 (g : Nat) : Tryz.prog.built 55 [(0, .int .i64 17), (1, .int .i64 1), (2, .int .i64 2), (10, .slice (some ⟨g, 0, none⟩) 1 1)] = some (sgL (sK5 g)).toArray := by kernel_rfl
theorem OwnB.at_base {w : World} {base : Nat} {A : Option Addr} {n c : Nat} {l : List UInt8} (h : OwnB w base (.slice A n c) l) {a : Addr} (e : A = some a) : base ≤ a.block ∧ a.block < w.heap.size := by
  obtain ⟨A', c', e', -, -, -, hb⟩ := h.shape
  cases e'
  exact ⟨(hb a e).1, (hb a e).2.1⟩
theorem k5_E (g : Nat) : putE (hK5 none 0 0) (sK5 g) = 0 := by kernel_rfl
theorem k5_B (g : Nat) : putB (hK5 none 0 0) (sK5 g) [] [97] = kB5 := by kernel_rfl
theorem k5_P (ad : Option Addr) (cd : Nat) : segE (hK5 ad 9 cd) kB5 = 0 := by kernel_rfl
theorem k5_G (ad : Option Addr) (cd : Nat) (a1 : Option Addr) (c1 : Nat) (a2 : Option Addr) (c2 : Nat) : gotS (hK5 ad 9 cd) kB5 a1 c1 a2 c2 = ⟨17, 1, 2, 0, 0, 0, 0, 0, false, none, 0, 0, a2, 1, c2⟩ := by kernel_rfl
theorem k5_D (ad : Option Addr) (cd : Nat) : datS (hK5 ad 9 cd) kB5 = [97] := by kernel_rfl

end Go.Proofs.YtihakjcccbionaaGreatDoor

end
section
/-
  The walk of the document's Same of two segments that are alike; of the statement SegmentProto.
-/
namespace Go.Proofs.YtihakjcccbionaaGreatDoor
open Go.RowKit
attribute [local go_sem ↓] exec_span exec_put exec_build heap_alloc_new heap_old heap_alloc_drew
attribute [local go_sem] spanQ_ptr spanC_some heap_of_drew heap_of_drewN rs_arr rs_ad rs_ip rs_rip rs_seg rs_rseg putAt_ptr putOk_ptr oldOk_some World.setRow_alloc_new setRow_drew
set_option maxRecDepth 100000
set_option linter.unusedVariables false
set_option linter.unusedSimpArgs false

/-- a segment with its two lists in other memory. -/
def othS (s : Sg) (ao : Option Addr) (co : Nat) (ad : Option Addr) (cd : Nat) : Sg := { s with ao := ao, co := co, ad := ad, cd := cd }
theorem putE_giv (h : Ip) (s : Sg) (g1 g2 g3 g4 : Nat) : putE (givH h g1 g2) (givS s g3 g4) = putE h s := rfl
theorem putB_giv (h : Ip) (s : Sg) (g1 g2 g3 g4 : Nat) (O D : List UInt8) : putB (givH h g1 g2) (givS s g3 g4) O D = putB h s O D := rfl
theorem InS.below {W W1 : World} {X : Array Value} {s : Sg} {O D : List UInt8} (p : InS W X s O D) (b : Below W.heap.size W W1) : InS W1 X s O D :=
  ⟨p.x, (p.o.below b).more b.size, p.ol, p.oc, p.om, p.on, (p.d.below b).more b.size, p.dl, p.dc, p.dm, p.dn⟩
/-- within, given, Put: what is lent to it is read. -/
theorem putWG {w : World} {X Y : Array Value} {h : Ip} {s : Sg} {O D O2 D2 : List UInt8} (p : InP w X h O D) (q : InS w Y s O2 D2) (W1 : World) (g1 g2 g3 g4 : Nat) (L3 : Lentd W1 g3 O2) (L4 : Lentd W1 g4 D2) :
    Calls Tryz.prog 16 #[.agg (ipL (givH h g1 g2)).toArray, .agg (sgL (givS s g3 g4)).toArray] W1 fun e w' => ∃ A c, e = .returned (.tuple #[.slice A (putB h s O2 D2).length c, .int .i64 (putE h s)]) ∧ OwnB w' W1.heap.size (.slice A (putB h s O2 D2).length c) (putB h s O2 D2) ∧ Below W1.heap.size W1 w' :=
  segPut_any W1 _ _ (givH h g1 g2) (givS s g3 g4) ⟨rfl, p.x.ls, p.x.ld⟩ ⟨rfl, q.x.hq, q.x.hk⟩ O2 D2 (L3.byt L3.lt) q.ol (Nat.le_add_right _ _) (fun e => by cases e) (L4.byt L4.lt) q.dl (Nat.le_add_right _ _) (fun e => by cases e) (Nat.le_trans q.om (by decide)) (Nat.le_trans q.dm (by decide))
end Go.Proofs.YtihakjcccbionaaGreatDoor

end
section
/-
  The walk of the statement SegmentProto.
-/
namespace Go.Proofs.YtihakjcccbionaaGreatDoor
open Go.RowKit
attribute [local go_sem ↓] exec_span exec_put exec_build heap_alloc_new heap_old heap_alloc_drew
attribute [local go_sem] spanQ_ptr spanC_some heap_of_drew heap_of_drewN rs_arr rs_ad rs_ip rs_rip rs_seg rs_rseg putAt_ptr putOk_ptr oldOk_some World.setRow_alloc_new setRow_drew
set_option maxRecDepth 100000
set_option linter.unusedVariables false
set_option linter.unusedSimpArgs false

theorem segE_giv (h : Ip) (g1 g2 : Nat) (D : List UInt8) : segE (givH h g1 g2) D = segE h D := rfl
/-- Parse of what is lent. -/
theorem parseG {w : World} {X : Array Value} {h : Ip} {O D : List UInt8} (p : InP w X h O D) (W1 : World) (g1 g2 : Nat) (L2 : Lentd W1 g2 D) :
    Calls Tryz.prog 24 #[.agg (ipL (givH h g1 g2)).toArray] W1 fun e w' => ParS W1 (givH h g1 g2) D e w' :=
  parseS_any W1 _ (givH h g1 g2) ⟨rfl, p.x.ls, p.x.ld⟩ D (L2.byt L2.lt) p.dl (Nat.le_add_right _ _) (Nat.le_trans p.dm (by decide))
theorem built_noneRS : Tryz.prog.built 64 [] = some (sgL nSg).toArray := by kernel_rfl

end Go.Proofs.YtihakjcccbionaaGreatDoor

end
