/-
  The walk of the document's Same of two segments that are alike; of the statement SegmentProto.
-/
import Derived.Test.YtcfckhdohcaffaaKp
import Derived.Test.YtcfckhdohcaffaaJl
import Derived.Test.YtcfckhdohcaffaaRowS
namespace Go.Proofs.Ytcfckhdohcaffaa
open Go.RowKit
attribute [local go_sem ↓] exec_span exec_put exec_build heap_alloc_new heap_old heap_alloc_drew
attribute [local go_sem] spanQ_ptr spanC_some heap_of_drew heap_of_drewN rs_arr rs_ad rs_ip rs_rip rs_seg rs_rseg putAt_ptr putOk_ptr oldOk_some World.setRow_alloc_new setRow_drew
set_option maxRecDepth 100000
set_option linter.unusedVariables false
set_option linter.unusedSimpArgs false

/-- a segment with its two lists in other memory. -/
def othS (s : Sg) (ao : Option Addr) (co : Nat) (ad : Option Addr) (cd : Nat) : Sg := { s with ao := ao, co := co, ad := ad, cd := cd }
set_option maxHeartbeats 4000000 in
theorem refsameS_any (w : World) (X Y : Array Value) (s : Sg) (ao' ad' : Option Addr) (co' cd' : Nat) (x : SgV X s) (y : SgV Y (othS s ao' co' ad' cd')) (O D : List UInt8) (hO : Byt w w.heap.size s.ao O) (hOl : O.length = s.no) (hD : Byt w w.heap.size s.ad D) (hDl : D.length = s.nd) (hO' : Byt w w.heap.size ao' O) (hD' : Byt w w.heap.size ad' D) :
    Calls Try.prog 11 #[.agg X, .agg Y] w fun e w' => e = .returned (.bool true) ∧ Below w.heap.size w w' := by
  have hxs := x.size
  have hys := y.size
  obtain ⟨W, hW⟩ : ∃ W, (w.alloc (.cells X 30)).alloc (.cells Y 30) = W := ⟨_, rfl⟩
  obtain ⟨h1, h2, hz, hb⟩ := two_packs w X _ _ _ W hW
  obtain ⟨c0, c1, c2, c3, c4, c5, c6, c7, c8, c9, c10⟩ := x.cells h1
  obtain ⟨d0, d1, d2, d3, d4, d5, d6, d7, d8, d9, d10⟩ := y.cells h2
  simp only [othS] at d0 d1 d2 d3 d4 d5 d6 d7 d8 d9 d10
  have v1 := conv_any s.ao s.co O w.heap.size W (hO.below hb)
  have v2 := conv_any s.ad s.cd D w.heap.size W (hD.below hb)
  have v3 := conv_any ao' co' O w.heap.size W (hO'.below hb)
  have v4 := conv_any ad' cd' D w.heap.size W (hD'.below hb)
  rw [hOl] at v1 v3
  rw [hDl] at v2 v4
  have HB := hide hb
  have HW := hide hW
  clear hz hb hW hO hD hO' hD' hOl hDl x y
  go_enter Try.func11, Try.ntmps11
  first
    | (go_upto_region 1 with (fail)
       change Code.wp _ _ _ _ ((w.alloc (.cells X 30)).alloc (.cells Y 30))
       rw [HW.out]
       go_wp2
       go_ret
       exact ⟨rfl, HB.out⟩)
    | (have HW2 := HW.out
       go_wp2
       go_ret
       exact ⟨rfl, HB.out⟩)
    | fail
theorem putE_giv (h : Ip) (s : Sg) (g1 g2 g3 g4 : Nat) : putE (givH h g1 g2) (givS s g3 g4) = putE h s := rfl
theorem putB_giv (h : Ip) (s : Sg) (g1 g2 g3 g4 : Nat) (O D : List UInt8) : putB (givH h g1 g2) (givS s g3 g4) O D = putB h s O D := rfl
theorem InS.below {W W1 : World} {X : Array Value} {s : Sg} {O D : List UInt8} (p : InS W X s O D) (b : Below W.heap.size W W1) : InS W1 X s O D :=
  ⟨p.x, (p.o.below b).more b.size, p.ol, p.oc, p.om, p.on, (p.d.below b).more b.size, p.dl, p.dc, p.dm, p.dn⟩
/-- within, given, Put: what is lent to it is read. -/
theorem putWG {w : World} {X Y : Array Value} {h : Ip} {s : Sg} {O D O2 D2 : List UInt8} (p : InP w X h O D) (q : InS w Y s O2 D2) (W1 : World) (g1 g2 g3 g4 : Nat) (L3 : Lentd W1 g3 O2) (L4 : Lentd W1 g4 D2) :
    Calls Try.prog 8 #[.agg (ipL (givH h g1 g2)).toArray, .agg (sgL (givS s g3 g4)).toArray] W1 fun e w' => ∃ A c, e = .returned (.tuple #[.slice A (putB h s O2 D2).length c, .int .i64 (putE h s)]) ∧ OwnB w' W1.heap.size (.slice A (putB h s O2 D2).length c) (putB h s O2 D2) ∧ Below W1.heap.size W1 w' :=
  segPut_any W1 _ _ (givH h g1 g2) (givS s g3 g4) ⟨rfl, p.x.ls, p.x.ld⟩ ⟨rfl, q.x.hq, q.x.hk⟩ O2 D2 (L3.byt L3.lt) q.ol (Nat.le_add_right _ _) (fun e => by cases e) (L4.byt L4.lt) q.dl (Nat.le_add_right _ _) (fun e => by cases e) (Nat.le_trans q.om (by decide)) (Nat.le_trans q.dm (by decide))
end Go.Proofs.Ytcfckhdohcaffaa
