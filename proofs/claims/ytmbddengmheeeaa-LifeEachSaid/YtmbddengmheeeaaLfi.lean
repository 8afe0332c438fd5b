/-
  Are two alike; can it be.
-/
import Derived.Test.YtmbddengmheeeaaLfe
import Derived.Test.YtmbddengmheeeaaLfh
namespace Go.Proofs.Ytmbddengmheeeaa
open Go.RowKit
set_option maxRecDepth 100000
set_option linter.unusedVariables false
set_option linter.unusedSimpArgs false
attribute [local go_sem ↓] exec_span exec_put exec_build heap_alloc_new heap_old
attribute [local go_sem] spanQ_ptr spanC_some heap_of_drew heap_of_drewN rs_ad rs_spec putAt_ptr putOk_ptr oldOk_some store_fl

/-- what is known, its votes as a list. -/
structure Kn where
  g : Int
  l : Int
  sp : Spc
  vs : List (Int × Bool)
  dn : Int
def Kn.rc (k : Kn) (va : Option Addr) (vc : Nat) : Rcd := ⟨k.g, k.l, k.sp, va, k.vs.length, vc, k.dn⟩
structure KnV (w : World) (B : Nat) (X : Array Value) (k : Kn) (va : Option Addr) (vc : Nat) : Prop where
  rc : RcV X (k.rc va vc)
  vo : VoS w B va k.vs
  sz : k.vs.length ≤ 4611686018427387904
  nn : va = none → vc = 0
  cp : k.vs.length ≤ vc
theorem KnV.below {w w' : World} {B B' : Nat} {X : Array Value} {k : Kn} {va : Option Addr} {vc : Nat} (h : KnV w B X k va vc) (hb : Below B' w w') (hB : B ≤ B') : KnV w' B X k va vc := ⟨h.rc, h.vo.below hb hB, h.sz, h.nn, h.cp⟩
theorem KnV.more {w : World} {B B' : Nat} {X : Array Value} {k : Kn} {va : Option Addr} {vc : Nat} (h : KnV w B X k va vc) (hB : B ≤ B') : KnV w B' X k va vc := ⟨h.rc, h.vo.more hB, h.sz, h.nn, h.cp⟩
theorem rs_rec : rowSize Try.prog 34 = some 24 := by kernel_rfl
theorem info_rec : (Try.prog.info? 34).map (·.size) = some 24 := by kernel_rfl
attribute [local go_sem] rs_rec
def zKn : Kn := ⟨0, 0, zSp, [], 0⟩
def zRcd : Rcd := ⟨0, 0, zSp, none, 0, 0, 0⟩
theorem zKn_ok (w : World) : KnV w 0 (rcL zRcd).toArray zKn none 0 := ⟨⟨rfl, by simp [Kn.rc, zKn, zSp], by show 0 < 2 ^ 64; decide⟩, VoS.nil _ _ _, by simp [zKn], fun _ => rfl, by simp [zKn]⟩
theorem built_rec0 : Try.prog.built 34 [] = some (rcL zRcd).toArray := by kernel_rfl
def sameK (a b : Kn) : Bool := a.g == b.g && (a.l == b.l && (sameSp a.sp b.sp && (decide (a.vs = b.vs) && a.dn == b.dn)))
set_option maxHeartbeats 8000000 in
theorem sameK_any (w : World) (B : Nat) (X Y : Array Value) (a b : Kn) (va vb : Option Addr) (ca cb : Nat) (h : KnV w B X a va ca) (h' : KnV w B Y b vb cb) (hB : B ≤ w.heap.size) : Calls Try.prog 14 #[.agg X, .agg Y] w (BoolP w (sameK a b)) := by
  have hF : Hid (∀ w' r, Below w.heap.size w w' → r = sameK a b → BoolP w (sameK a b) (.returned (.bool r)) w') := hide fun w' r hb hr => ⟨by rw [hr], hb⟩
  have he : sameK a b = (a.g == b.g && (a.l == b.l && (sameSp a.sp b.sp && (decide (a.vs = b.vs) && a.dn == b.dn)))) := rfl
  generalize sameK a b = R at hF he ⊢
  obtain ⟨W, hW, r1, r2, hz, hb⟩ := two_new w X Y 34
  have hv1 := h.vo.below hb hB
  have hv2 := h'.vo.below hb hB
  have hBW : B ≤ W.heap.size := by omega
  have KS := hide (fun p : BW W => samesp_any p.w _ _ _ _ h.rc.sp h'.rc.sp)
  have KE := hide (fun p : BW W => equalV_any p.w B B va vb ca cb a.vs b.vs (hv1.below p.below hBW) (hv2.below p.below hBW) h.sz h'.sz)
  obtain ⟨a0, a1, a22, a23⟩ := h.rc.cells r1
  obtain ⟨b0, b1, b22, b23⟩ := h'.rc.cells r2
  have hxs := h.rc.size
  have hys := h'.rc.size
  have hxe := h.rc.spec
  have hye := h'.rc.spec
  simp only [Kn.rc] at KS hxe hye a0 a1 a22 a23 b0 b1 b22 b23
  generalize (spL a.sp).toArray = XS at KS hxe
  generalize (spL b.sp).toArray = YS at KS hye
  obtain ⟨q, hq⟩ : ∃ q, q = sameSp a.sp b.sp := ⟨_, rfl⟩
  rw [← hq] at KS he
  obtain ⟨v, hv⟩ : ∃ v, v = decide (a.vs = b.vs) := ⟨_, rfl⟩
  rw [← hv] at KE he
  obtain ⟨ag, hag⟩ : ∃ x, x = a.g := ⟨_, rfl⟩
  obtain ⟨bg, hbg⟩ : ∃ x, x = b.g := ⟨_, rfl⟩
  obtain ⟨al, hal⟩ : ∃ x, x = a.l := ⟨_, rfl⟩
  obtain ⟨bl, hbl⟩ : ∃ x, x = b.l := ⟨_, rfl⟩
  obtain ⟨ad, had⟩ : ∃ x, x = a.dn := ⟨_, rfl⟩
  obtain ⟨bd, hbd⟩ : ∃ x, x = b.dn := ⟨_, rfl⟩
  obtain ⟨an, han⟩ : ∃ x, x = a.vs.length := ⟨_, rfl⟩
  obtain ⟨bn, hbn⟩ : ∃ x, x = b.vs.length := ⟨_, rfl⟩
  rw [← hag, ← hbg, ← hal, ← hbl, ← had, ← hbd] at he
  rw [← hag] at a0
  rw [← hal] at a1
  rw [← had] at a23
  rw [← hbg] at b0
  rw [← hbl] at b1
  rw [← hbd] at b23
  rw [← han] at a22 KE
  rw [← hbn] at b22 KE
  have HC := hide (fun (W1 : World) (bl : Below W.heap.size W W1) => (⟨((BW.mk W1 bl).cell a22), ((BW.mk W1 bl).cell b22), ((BW.mk W1 bl).cell a23), ((BW.mk W1 bl).cell b23)⟩ : _ ∧ _ ∧ _ ∧ _))
  have HB := hide hb
  have HZ := hide hz
  obtain ⟨e1, he1⟩ : ∃ x, x = (ag == bg) := ⟨_, rfl⟩
  obtain ⟨e2, he2⟩ : ∃ x, x = (al == bl) := ⟨_, rfl⟩
  obtain ⟨e5, he5⟩ : ∃ x, x = (ad == bd) := ⟨_, rfl⟩
  rw [← he1, ← he2, ← he5] at he
  have HE := hide he
  have g1 := he1.symm
  have g2 := he2.symm
  have g5 := he5.symm
  clear hq hv hag hbg hal hbl had hbd han hbn hb hz he h h' hv1 hv2 hBW he1 he2 he5
  go_enter Try.func14, Try.ntmps14
  cases e1
  · have hR : Hid (R = false) := hide (by rw [HE.out]; rfl)
    go_wp2
    go_ret
    exact hF.out _ _ HB.out hR.out.symm
  cases e2
  · have hR : Hid (R = false) := hide (by rw [HE.out]; rfl)
    go_wp2
    go_ret
    exact hF.out _ _ HB.out hR.out.symm
  go_wp2_with fail
  refine (KS.out ⟨W, Below.refl _ _⟩).mono ?_
  rintro e w1 ⟨rfl, bb1⟩
  obtain ⟨f1, f2, f3, f4⟩ := HC.out w1 bb1
  have B1 := hide (HB.out.trans (bb1.mono (show w.heap.size ≤ W.heap.size by have := HZ.out; omega)))
  have BB1 := hide bb1
  clear bb1 a0 a1 a22 a23 b0 b1 b22 b23 r1 r2
  dsimp only
  cases q
  · have hR : Hid (R = false) := hide (by rw [HE.out]; rfl)
    go_wp2
    go_ret
    exact hF.out _ _ B1.out hR.out.symm
  go_wp2_with fail
  refine (KE.out ⟨w1, BB1.out⟩).mono ?_
  rintro e w2 ⟨rfl, bb2⟩
  obtain ⟨f1, f2, f3, f4⟩ := HC.out w2 (BB1.out.trans (bb2.mono BB1.out.size))
  have B2 := hide (B1.out.trans (bb2.mono (show w.heap.size ≤ w1.heap.size by have := HZ.out; have := BB1.out.size; omega)))
  clear bb2
  dsimp only
  cases v
  · have hR : Hid (R = false) := hide (by rw [HE.out]; rfl)
    go_wp2
    go_ret
    exact hF.out _ _ B2.out hR.out.symm
  · have hR : Hid (R = e5) := hide (by rw [HE.out]; simp)
    go_wp2
    go_ret
    exact hF.out _ _ B2.out hR.out.symm
end Go.Proofs.Ytmbddengmheeeaa
