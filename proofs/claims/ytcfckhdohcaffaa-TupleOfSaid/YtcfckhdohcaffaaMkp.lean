import Derived.Test.YtcfckhdohcaffaaJb
import Derived.Test.YtcfckhdohcaffaaRowP
import Derived.Deep.RegionHeld3
import Derived.Test.YtcfckhdohcaffaaMkn
import Derived.Test.YtcfckhdohcaffaaKm
import Derived.Lib.SlBytesConst
import Derived.Test.YtcfckhdohcaffaaRowS
section
/-
  The fixed calls of steelyardlaw04.
-/
namespace Go.Proofs.Ytcfckhdohcaffaa
open Go.RowKit
attribute [local go_sem ↓] exec_span exec_put exec_build heap_alloc_new heap_old
attribute [local go_sem] spanQ_ptr spanC_some heap_of_drew heap_of_drewN rs_arr rs_ad rs_ip rs_rip putAt_ptr putOk_ptr oldOk_some World.setRow_alloc_new
set_option maxRecDepth 100000
set_option linter.unusedVariables false
set_option linter.unusedSimpArgs false

theorem built_k1 : Try.prog.built 36 [(3, .int .i64 17), (4, .int .i64 64)] = some (ipL (nIp 17 64 0 0 false)).toArray := by kernel_rfl
def four (x : UInt8) : List UInt8 := [10, 0, 0, x] ++ List.replicate 12 0
theorem built_k2 (x : UInt8) : Try.prog.built 22 [(0, .int .u8 10), (1, .int .u8 0), (2, .int .u8 0), (3, .int .u8 (x.toNat : Int))] = some ((four x).map byteV).toArray := by kernel_rfl

/-- the fixed packet, and its bytes. -/
def hK : Ip := ⟨false, false, four 1, false, four 2, 17, 64, 0, 0, false, 0, none, 0, 0, none, 0, 0⟩
def kB : List UInt8 := [69, 0, 0, 20, 0, 0, 0, 0, 64, 17, 102, 215, 10, 0, 0, 1, 10, 0, 0, 2]
theorem hK_E : pktE hK = 0 := by decide +kernel
theorem hK_B : pktB hK [] [] = kB := by decide +kernel
theorem kB_E : pkE kB = 0 := by decide +kernel

end Go.Proofs.Ytcfckhdohcaffaa

end
section
/-
  The walk of the statement HeaderPseudo.
-/
namespace Go.Proofs.Ytcfckhdohcaffaa
open Go.RowKit
attribute [local go_sem ↓] exec_span exec_put exec_build heap_alloc_new heap_old
attribute [local go_sem] spanQ_ptr spanC_some heap_of_drew heap_of_drewN rs_arr rs_ad rs_ip rs_rip putAt_ptr putOk_ptr oldOk_some World.setRow_alloc_new
set_option maxRecDepth 100000
set_option linter.unusedVariables false
set_option linter.unusedSimpArgs false

theorem InP.below {W W' : World} {X : Array Value} {h : Ip} {O D : List UInt8} (p : InP W X h O D) (hb : Below W.heap.size W W') : InP W' X h O D :=
  ⟨p.x, (p.o.below hb).more hb.size, p.ol, p.oc, p.om, p.on, (p.d.below hb).more hb.size, p.dl, p.dc, p.dm, p.dn⟩
end Go.Proofs.Ytcfckhdohcaffaa

end
section
/-
  The fixed calls of steelyardlaw05.
-/
namespace Go.Proofs.Ytcfckhdohcaffaa
open Go.RowKit
attribute [local go_sem ↓] exec_span exec_put exec_build heap_alloc_new heap_old heap_alloc_drew
attribute [local go_sem] spanQ_ptr spanC_some heap_of_drew heap_of_drewN rs_arr rs_ad rs_ip rs_rip rs_seg putAt_ptr putOk_ptr oldOk_some World.setRow_alloc_new setRow_drew
set_option maxRecDepth 100000
set_option linter.unusedVariables false
set_option linter.unusedSimpArgs false

theorem built_k5 : Try.prog.built 36 [(3, .int .i64 17)] = some (ipL (nIp 17 0 0 0 false)).toArray := by kernel_rfl
def hK5 (ad : Option Addr) (nd cd : Nat) : Ip := ⟨false, false, four 1, false, four 2, 17, 0, 0, 0, false, 0, none, 0, 0, ad, nd, cd⟩
def sK5 (g : Nat) : Sg := ⟨17, 1, 2, 0, 0, 0, 0, 0, false, none, 0, 0, some ⟨g, 0, none⟩, 1, 1⟩
def kB5 : List UInt8 := [0, 1, 0, 2, 0, 9, 138, 214, 97]
theorem built_s5 (g : Nat) : Try.prog.built 31 [(0, .int .i64 17), (1, .int .i64 1), (2, .int .i64 2), (10, .slice (some ⟨g, 0, none⟩) 1 1)] = some (sgL (sK5 g)).toArray := by kernel_rfl
theorem OwnB.at_base {w : World} {base : Nat} {A : Option Addr} {n c : Nat} {l : List UInt8} (h : OwnB w base (.slice A n c) l) {a : Addr} (e : A = some a) : base ≤ a.block ∧ a.block < w.heap.size := by
  obtain ⟨A', c', e', -, -, -, hb⟩ := h.shape
  cases e'
  exact ⟨(hb a e).1, (hb a e).2.1⟩
theorem k5_E (g : Nat) : putE (hK5 none 0 0) (sK5 g) = 0 := by kernel_rfl
theorem k5_B (g : Nat) : putB (hK5 none 0 0) (sK5 g) [] [97] = kB5 := by kernel_rfl
theorem k5_P (ad : Option Addr) (cd : Nat) : segE (hK5 ad 9 cd) kB5 = 0 := by kernel_rfl
theorem k5_G (ad : Option Addr) (cd : Nat) (a1 : Option Addr) (c1 : Nat) (a2 : Option Addr) (c2 : Nat) : gotS (hK5 ad 9 cd) kB5 a1 c1 a2 c2 = ⟨17, 1, 2, 0, 0, 0, 0, 0, false, none, 0, 0, a2, 1, c2⟩ := by kernel_rfl
theorem k5_D (ad : Option Addr) (cd : Nat) : datS (hK5 ad 9 cd) kB5 = [97] := by kernel_rfl

set_option maxHeartbeats 4000000 in
theorem knownS_any (w : World) : Calls Try.prog 13 #[] w fun e w' => e = .returned (.bool true) ∧ Below w.heap.size w w' := by
  have k1 := built_k5
  have k2 := built_k2 1
  have k3 := built_k2 2
  obtain ⟨X, hX⟩ : ∃ X, X = (ipL (nIp 17 0 0 0 false)).toArray := ⟨_, rfl⟩
  rw [← hX] at k1
  have hXs : X.size = 43 := by rw [hX]; exact (nIp_ok 17 0 0 0 false).size
  have hXo : allOne X = true := by rw [hX]; exact (nIp_ok 17 0 0 0 false).one
  have HX := hide hX
  clear hX
  go_enter Try.func13, Try.ntmps13
  go_upto_region 4 with (fail)
  obtain ⟨X1, hX1⟩ : ∃ X1, X1 = ((((((((((((((((((((((((((((((((X.setIfInBounds 2 (Value.int IntKind.u8 10)).setIfInBounds 3 (Value.int IntKind.u8 0)).setIfInBounds 4 (Value.int IntKind.u8 0)).setIfInBounds 5 (Value.int IntKind.u8 1)).setIfInBounds 6 (Value.int IntKind.u8 0)).setIfInBounds 7 (Value.int IntKind.u8 0)).setIfInBounds 8 (Value.int IntKind.u8 0)).setIfInBounds 9 (Value.int IntKind.u8 0)).setIfInBounds 10 (Value.int IntKind.u8 0)).setIfInBounds 11 (Value.int IntKind.u8 0)).setIfInBounds 12 (Value.int IntKind.u8 0)).setIfInBounds 13 (Value.int IntKind.u8 0)).setIfInBounds 14 (Value.int IntKind.u8 0)).setIfInBounds 15 (Value.int IntKind.u8 0)).setIfInBounds 16 (Value.int IntKind.u8 0)).setIfInBounds 17 (Value.int IntKind.u8 0)).setIfInBounds 19 (Value.int IntKind.u8 10)).setIfInBounds 20 (Value.int IntKind.u8 0)).setIfInBounds 21 (Value.int IntKind.u8 0)).setIfInBounds 22 (Value.int IntKind.u8 2)).setIfInBounds 23 (Value.int IntKind.u8 0)).setIfInBounds 24 (Value.int IntKind.u8 0)).setIfInBounds 25 (Value.int IntKind.u8 0)).setIfInBounds 26 (Value.int IntKind.u8 0)).setIfInBounds 27 (Value.int IntKind.u8 0)).setIfInBounds 28 (Value.int IntKind.u8 0)).setIfInBounds 29 (Value.int IntKind.u8 0)).setIfInBounds 30 (Value.int IntKind.u8 0)).setIfInBounds 31 (Value.int IntKind.u8 0)).setIfInBounds 32 (Value.int IntKind.u8 0)).setIfInBounds 33 (Value.int IntKind.u8 0)).setIfInBounds 34 (Value.int IntKind.u8 0)) := ⟨_, rfl⟩
  rw [← hX1]
  have hV : IpV X1 (hK5 none 0 0) := ⟨by rw [hX1, HX.out]; rfl, rfl, rfl⟩
  clear hX1 HX hXs hXo k1 k2 k3
  have hr := heap_alloc_new w (.cells X1 36)
  have hb : Below w.heap.size w (w.alloc (.cells X1 36)) := (Below.refl _ _).alloc (Nat.le_refl _) _
  have hz : (w.alloc (.cells X1 36)).heap.size = w.heap.size + 1 := by simp
  generalize w.alloc (.cells X1 36) = W at hr hb hz ⊢
  have hxs := hV.size
  have hxr := hV.x0
  have hs5 := built_s5 W.heap.size
  obtain ⟨Y, hY⟩ : ∃ Y, Y = (sgL (sK5 W.heap.size)).toArray := ⟨_, rfl⟩
  rw [← hY] at hs5
  have yV : SgV Y (sK5 W.heap.size) := ⟨hY, Nat.succ_pos _, Nat.succ_pos _⟩
  have hys := yV.size
  have hyo := yV.one
  have hb1 : Below W.heap.size W (W.alloc (.cells #[.int .u8 97] 5 (1, 2))) := (Below.refl _ _).alloc (Nat.le_refl _) _
  have P := segPut_any (W.alloc (.cells #[.int .u8 97] 5 (1, 2))) X1 Y (hK5 none 0 0) (sK5 W.heap.size) hV yV [] [97] (Byt.nil _ _ _) rfl (Nat.le_refl _) (fun _ => rfl) (by
    have := Byt.lit W [97] #[.int .u8 97] 5 (1, 2) rfl
    rwa [show (W.alloc (.cells #[.int .u8 97] 5 (1, 2))).heap.size = W.heap.size + 1 by simp]) rfl (Nat.le_refl _) (fun e => by cases e) (Nat.zero_le _) (by show 1 ≤ 140737488355328; decide)
  rw [k5_E, k5_B] at P
  have kc := Lib.run_convert_bytes_const (P := Try.prog) W 25 5 #[.int .u8 97] 1 1 Try.underlying25 Try.underlying5
  have kc' : (convert 25 25 (.slice (some ⟨W.heap.size, 0, none⟩) 1 1)).run Try.prog (W.alloc (.cells #[.int .u8 97] 5)) = .ok (.slice (some ⟨W.heap.size, 0, none⟩) 1 1) (W.alloc (.cells #[.int .u8 97] 5 (1, 2))) := kc
  clear kc
  have HP := hide P
  have HB := hide hb
  have HB1 := hide hb1
  have HZ := hide hz
  have HV := hide hV
  clear P hb hz hb1 hY yV hV
  go_wp2_with fail
  refine HP.out.mono ?_
  rintro e w2 ⟨A, c, rfl, ho, b2⟩
  obtain ⟨A', c', hv', hlc, hby, hnil, -⟩ := ho.shape
  cases hv'
  have hl9 : kB5.length = 9 := rfl
  rw [hl9] at hlc ⊢
  have B2 : Hid (Below w.heap.size w w2) := hide (HB.out.trans ((HB1.out.trans (b2.mono HB1.out.size)).mono HB.out.size))
  have r2 := ((HB1.out.trans (b2.mono HB1.out.size)).block w.heap.size (by have := HZ.out; omega)).trans hr
  have k42 := (HV.out.cells r2).c42
  have f42 := frozen_of_row w2 w.heap.size 42 _ _ r2
  have r3 := heap_setCell_same w2 w.heap.size 42 _ _ (.slice A 9 c) r2
  rw [HV.out.eq, ip_set42 _ rfl rfl] at r3
  obtain ⟨X2, hX2⟩ : ∃ X2, X2 = (ipL (hK5 A 9 c)).toArray := ⟨_, rfl⟩
  have r3' : (w2.setCell ⟨w.heap.size, 42, none⟩ (.slice A 9 c)).heap[w.heap.size]? = some (.cells X2 36 (0, 0)) := by rw [hX2]; exact r3
  have hV2 : IpV X2 (hK5 A 9 c) := ⟨hX2, rfl, rfl⟩
  have hg := grown_set w2 w.heap.size 42 (.slice A 9 c)
  have hb3 := B2.out.grown hg (by have := B2.out.size; omega) (fun i e => by cases e; exact Nat.le_refl _)
  have hby3 : Byt (w2.setCell ⟨w.heap.size, 42, none⟩ (.slice A 9 c)) w2.heap.size A kB5 := hby.other (Nat.le_refl _) hg (fun a e => by
    obtain ⟨q1, -⟩ := OwnB.at_base ho e
    have := HB1.out.size
    have := HZ.out
    omega)
  obtain ⟨w3, hw3⟩ : ∃ w3, w2.setCell ⟨w.heap.size, 42, none⟩ (.slice A 9 c) = w3 := ⟨_, rfl⟩
  have hn3 : w2.heap.size ≤ w3.heap.size := by rw [← hw3]; simp
  rw [hw3] at r3' hb3 hby3
  have hxs2 := hV2.size
  have hxr2 := hV2.x0
  have KS := parseS_any w3 X2 (hK5 A 9 c) hV2 kB5 (hby3.more hn3) rfl hlc (by show 9 ≤ 140737488355328; decide)
  have HKS := hide KS
  have HB3 := hide hb3
  have HBY := hide (hby3.more hn3)
  have HR3 := hide r3'
  clear KS hb3 hby3 hn3 hV2 r3 hX2 hg hby hnil ho r2 b2 hr HP hs5 hys hyo hxs hxr kc'
  dsimp only
  go_wp2_with fail
  clear hw3 k42 f42
  refine HKS.out.mono ?_
  rintro e w4 ⟨Y4, rfl, b4, -, hok⟩
  rw [k5_P]
  obtain ⟨ao, co, ad, cd, V4, g1, g2⟩ := hok (k5_P A c)
  rw [k5_G] at V4
  rw [k5_D] at g2
  have hy4s := V4.size
  have hy4o := V4.one
  have r5 := heap_alloc_new w4 (.cells Y4 31)
  have b5 : Below w3.heap.size w3 (w4.alloc (.cells Y4 31)) := b4.alloc b4.size _
  have c2 := (V4.cells r5).c2
  have c10 := (V4.cells r5).c10
  have hcv1 := conv_any A c kB5 w3.heap.size (w4.alloc (.cells Y4 31)) (HBY.out.below b5)
  have hcv2 := conv_any ad cd [97] w4.heap.size (w4.alloc (.cells Y4 31)) (g2.1.below ((Below.refl _ _).alloc (Nat.le_refl _) _))
  have hstr : (⟨kB5.toArray⟩ : ByteArray) = ⟨#[0, 1, 0, 2, 0, 9, 138, 214, 97]⟩ := rfl
  rw [hstr, hl9] at hcv1
  have h1l : ([97] : List UInt8).length = 1 := rfl
  have hst2 : (⟨([97] : List UInt8).toArray⟩ : ByteArray) = ⟨#[97]⟩ := rfl
  rw [hst2, h1l] at hcv2
  have HB5 : Hid (Below w.heap.size w (w4.alloc (.cells Y4 31))) := hide (HB3.out.trans (b5.mono HB3.out.size))
  clear V4 g1 g2 hok b4 b5 HKS hstr hst2 h1l
  dsimp only
  go_wp2
  go_ret
  exact ⟨rfl, HB5.out⟩
end Go.Proofs.Ytcfckhdohcaffaa

end
section
/-
  The walk of the document's Same of two segments that are alike; of the statement SegmentProto.
-/
namespace Go.Proofs.Ytcfckhdohcaffaa
open Go.RowKit
attribute [local go_sem ↓] exec_span exec_put exec_build heap_alloc_new heap_old heap_alloc_drew
attribute [local go_sem] spanQ_ptr spanC_some heap_of_drew heap_of_drewN rs_arr rs_ad rs_ip rs_rip rs_seg rs_rseg putAt_ptr putOk_ptr oldOk_some World.setRow_alloc_new setRow_drew
set_option maxRecDepth 100000
set_option linter.unusedVariables false
set_option linter.unusedSimpArgs false

/-- a segment with its two lists in other memory. -/
def othS (s : Sg) (ao : Option Addr) (co : Nat) (ad : Option Addr) (cd : Nat) : Sg := { s with ao := ao, co := co, ad := ad, cd := cd }
set_option maxHeartbeats 4000000 in
theorem refsameS_any (w : World) (X Y : Array Value) (s : Sg) (ao' ad' : Option Addr) (co' cd' : Nat) (x : SgV X s) (y : SgV Y (othS s ao' co' ad' cd')) (O D : List UInt8) (hO : Byt w w.heap.size s.ao O) (hOl : O.length = s.no) (hD : Byt w w.heap.size s.ad D) (hDl : D.length = s.nd) (hO' : Byt w w.heap.size ao' O) (hD' : Byt w w.heap.size ad' D) :
    Calls Try.prog 11 #[.agg X, .agg Y] w fun e w' => e = .returned (.bool true) ∧ Below w.heap.size w w' := by
  have hxs := x.size
  have hys := y.size
  obtain ⟨W, hW⟩ : ∃ W, (w.alloc (.cells X 30)).alloc (.cells Y 30) = W := ⟨_, rfl⟩
  obtain ⟨h1, h2, hz, hb⟩ := two_packs w X _ _ _ W hW
  obtain ⟨c0, c1, c2, c3, c4, c5, c6, c7, c8, c9, c10⟩ := x.cells h1
  obtain ⟨d0, d1, d2, d3, d4, d5, d6, d7, d8, d9, d10⟩ := y.cells h2
  simp only [othS] at d0 d1 d2 d3 d4 d5 d6 d7 d8 d9 d10
  have v1 := conv_any s.ao s.co O w.heap.size W (hO.below hb)
  have v2 := conv_any s.ad s.cd D w.heap.size W (hD.below hb)
  have v3 := conv_any ao' co' O w.heap.size W (hO'.below hb)
  have v4 := conv_any ad' cd' D w.heap.size W (hD'.below hb)
  rw [hOl] at v1 v3
  rw [hDl] at v2 v4
  have HB := hide hb
  have HW := hide hW
  clear hz hb hW hO hD hO' hD' hOl hDl x y
  go_enter Try.func11, Try.ntmps11
  first
    | (go_upto_region 1 with (fail)
       change Code.wp _ _ _ _ ((w.alloc (.cells X 30)).alloc (.cells Y 30))
       rw [HW.out]
       go_wp2
       go_ret
       exact ⟨rfl, HB.out⟩)
    | (have HW2 := HW.out
       go_wp2
       go_ret
       exact ⟨rfl, HB.out⟩)
    | fail
theorem putE_giv (h : Ip) (s : Sg) (g1 g2 g3 g4 : Nat) : putE (givH h g1 g2) (givS s g3 g4) = putE h s := rfl
theorem putB_giv (h : Ip) (s : Sg) (g1 g2 g3 g4 : Nat) (O D : List UInt8) : putB (givH h g1 g2) (givS s g3 g4) O D = putB h s O D := rfl
theorem InS.below {W W1 : World} {X : Array Value} {s : Sg} {O D : List UInt8} (p : InS W X s O D) (b : Below W.heap.size W W1) : InS W1 X s O D :=
  ⟨p.x, (p.o.below b).more b.size, p.ol, p.oc, p.om, p.on, (p.d.below b).more b.size, p.dl, p.dc, p.dm, p.dn⟩
/-- within, given, Put: what is lent to it is read. -/
theorem putWG {w : World} {X Y : Array Value} {h : Ip} {s : Sg} {O D O2 D2 : List UInt8} (p : InP w X h O D) (q : InS w Y s O2 D2) (W1 : World) (g1 g2 g3 g4 : Nat) (L3 : Lentd W1 g3 O2) (L4 : Lentd W1 g4 D2) :
    Calls Try.prog 8 #[.agg (ipL (givH h g1 g2)).toArray, .agg (sgL (givS s g3 g4)).toArray] W1 fun e w' => ∃ A c, e = .returned (.tuple #[.slice A (putB h s O2 D2).length c, .int .i64 (putE h s)]) ∧ OwnB w' W1.heap.size (.slice A (putB h s O2 D2).length c) (putB h s O2 D2) ∧ Below W1.heap.size W1 w' :=
  segPut_any W1 _ _ (givH h g1 g2) (givS s g3 g4) ⟨rfl, p.x.ls, p.x.ld⟩ ⟨rfl, q.x.hq, q.x.hk⟩ O2 D2 (L3.byt L3.lt) q.ol (Nat.le_add_right _ _) (fun e => by cases e) (L4.byt L4.lt) q.dl (Nat.le_add_right _ _) (fun e => by cases e) (Nat.le_trans q.om (by decide)) (Nat.le_trans q.dm (by decide))
end Go.Proofs.Ytcfckhdohcaffaa

end
section
/-
  The walk of the statement SegmentProto.
-/
namespace Go.Proofs.Ytcfckhdohcaffaa
open Go.RowKit
attribute [local go_sem ↓] exec_span exec_put exec_build heap_alloc_new heap_old heap_alloc_drew
attribute [local go_sem] spanQ_ptr spanC_some heap_of_drew heap_of_drewN rs_arr rs_ad rs_ip rs_rip rs_seg rs_rseg putAt_ptr putOk_ptr oldOk_some World.setRow_alloc_new setRow_drew
set_option maxRecDepth 100000
set_option linter.unusedVariables false
set_option linter.unusedSimpArgs false

theorem InP.within {W : World} {X : Array Value} {h : Ip} {O D : List UInt8} (p : InP W X h O D) : Calls Try.prog 9 #[.agg X] W fun e w' => Given W h O D e w' :=
  withinH5_any W X h p.x O D p.o p.ol p.d p.dl p.oc p.dc (by have := p.om; omega) (by have := p.dm; omega)
theorem InS.given {W : World} {X : Array Value} {s : Sg} {O D : List UInt8} (p : InS W X s O D) : Calls Try.prog 7 #[.agg X] W fun e w' => GivenS W s O D e w' :=
  givenS_any W X s p.x O D p.o p.ol p.d p.dl p.oc p.dc (by have := p.om; omega) (by have := p.dm; omega)
theorem segE_giv (h : Ip) (g1 g2 : Nat) (D : List UInt8) : segE (givH h g1 g2) D = segE h D := rfl
/-- Parse of what is lent. -/
theorem parseG {w : World} {X : Array Value} {h : Ip} {O D : List UInt8} (p : InP w X h O D) (W1 : World) (g1 g2 : Nat) (L2 : Lentd W1 g2 D) :
    Calls Try.prog 15 #[.agg (ipL (givH h g1 g2)).toArray] W1 fun e w' => ParS W1 (givH h g1 g2) D e w' :=
  parseS_any W1 _ (givH h g1 g2) ⟨rfl, p.x.ls, p.x.ld⟩ D (L2.byt L2.lt) p.dl (Nat.le_add_right _ _) (Nat.le_trans p.dm (by decide))
theorem built_noneRS : Try.prog.built 30 [] = some (sgL nSg).toArray := by kernel_rfl

end Go.Proofs.Ytcfckhdohcaffaa

end
