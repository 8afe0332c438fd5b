/-
  The walk of the document's Same of two packets that are alike.
-/
import Derived.Test.YtnhcfmmmghghgaaJb
namespace Go.Proofs.Ytnhcfmmmghghgaa
open Go.RowKit
attribute [local go_sem ↓] exec_span exec_put exec_build heap_alloc_new heap_old
attribute [local go_sem] spanQ_ptr spanC_some heap_of_drew heap_of_drewN rs_arr rs_ad rs_ip rs_rip putAt_ptr putOk_ptr oldOk_some World.setRow_alloc_new
set_option maxRecDepth 100000
set_option linter.unusedVariables false
set_option linter.unusedSimpArgs false

/-- a packet with its two lists in other memory. -/
def othH (h : Ip) (ao : Option Addr) (co : Nat) (ad : Option Addr) (cd : Nat) : Ip := { h with ao := ao, co := co, ad := ad, cd := cd }
set_option maxHeartbeats 4000000 in
theorem refsameH_any (w : World) (X Y : Array Value) (h : Ip) (ao' ad' : Option Addr) (co' cd' : Nat) (x : IpV X h) (y : IpV Y (othH h ao' co' ad' cd')) (O D : List UInt8) (hO : Byt w w.heap.size h.ao O) (hOl : O.length = h.no) (hD : Byt w w.heap.size h.ad D) (hDl : D.length = h.nd) (hO' : Byt w w.heap.size ao' O) (hD' : Byt w w.heap.size ad' D) :
    Calls Try.prog 10 #[.agg X, .agg Y] w fun e w' => e = .returned (.bool true) ∧ Below w.heap.size w w' := by
  have hxs := x.size
  have hys := y.size
  obtain ⟨W, hW⟩ : ∃ W, (w.alloc (.cells X 27)).alloc (.cells Y 27) = W := ⟨_, rfl⟩
  obtain ⟨h1, h2, hz, hb⟩ := two_packs w X _ _ _ W hW
  obtain ⟨S, hS⟩ : ∃ S, S = (adL h.sv h.sb).toArray := ⟨_, rfl⟩
  obtain ⟨E, hE⟩ : ∃ S, S = (adL h.dv h.db).toArray := ⟨_, rfl⟩
  have x1 := x.src
  have x2 := x.dst
  have y1 : Y.extract 1 18 = (adL h.sv h.sb).toArray := y.src
  have y2 : Y.extract 18 35 = (adL h.dv h.db).toArray := y.dst
  rw [← hS] at x1 y1
  rw [← hE] at x2 y2
  have q1 : ∀ W, (binOp .eql 24 (.agg S) (.agg S)).run Try.prog W = .ok (.bool true) W := fun W => by
    have e := eql_ad W S S h.sv h.sv h.sb h.sb (by rw [hS]; exact AdV.mk' x.ls) (by rw [hS]; exact AdV.mk' x.ls)
    rw [e]; simp
  have q2 : ∀ W, (binOp .eql 24 (.agg E) (.agg E)).run Try.prog W = .ok (.bool true) W := fun W => by
    have e := eql_ad W E E h.dv h.dv h.db h.db (by rw [hE]; exact AdV.mk' x.ld) (by rw [hE]; exact AdV.mk' x.ld)
    rw [e]; simp
  obtain ⟨c0, c1, c18, c35, c36, c37, c38, c39, c40, c41, c42⟩ := x.cells h1
  obtain ⟨d0, d1, d18, d35, d36, d37, d38, d39, d40, d41, d42⟩ := y.cells h2
  simp only [othH] at d0 d1 d18 d35 d36 d37 d38 d39 d40 d41 d42
  have v1 := conv_any h.ao h.co O w.heap.size W (hO.below hb)
  have v2 := conv_any h.ad h.cd D w.heap.size W (hD.below hb)
  have v3 := conv_any ao' co' O w.heap.size W (hO'.below hb)
  have v4 := conv_any ad' cd' D w.heap.size W (hD'.below hb)
  rw [hOl] at v1 v3
  rw [hDl] at v2 v4
  have HB := hide hb
  have HW := hide hW
  clear hz hb hW hO hD hO' hD' hOl hDl x y hS hE
  go_enter Try.func10, Try.ntmps10
  go_upto_region 1 with (fail)
  change Code.wp _ _ _ _ ((w.alloc (.cells X 27)).alloc (.cells Y 27))
  rw [HW.out]
  go_wp2
  go_ret
  exact ⟨rfl, HB.out⟩
end Go.Proofs.Ytnhcfmmmghghgaa
