/-
  Is one known by another one: Within.
-/
import Derived.Test.YtmbddengmheeeaaLfo
namespace Go.Proofs.Ytmbddengmheeeaa
open Go.RowKit
set_option maxRecDepth 100000
set_option linter.unusedVariables false
set_option linter.unusedSimpArgs false
attribute [local go_sem ↓] exec_span exec_put exec_build heap_alloc_new heap_old
attribute [local go_sem] spanQ_ptr spanC_some heap_of_drew heap_of_drewN rs_ad rs_spec rs_rec putAt_ptr putOk_ptr oldOk_some store_fl World.setRow_alloc_new

def withinK (a b : Kn) : Bool := joinE a b == 0 && sameK (joinK a b) b
set_option maxHeartbeats 8000000 in
theorem withinK_any (w : World) (B : Nat) (X Y : Array Value) (a b : Kn) (va vb : Option Addr) (ca cb : Nat) (h : KnV w B X a va ca) (h' : KnV w B Y b vb cb) (hB : B ≤ w.heap.size) :
    Calls Try.prog 15 #[.agg X, .agg Y] w (BoolP w (withinK a b)) := by
  have hF : Hid (∀ w' r, Below w.heap.size w w' → r = withinK a b → BoolP w (withinK a b) (.returned (.bool r)) w') := hide fun w' r hb hr => ⟨by rw [hr], hb⟩
  have he : withinK a b = (joinE a b == 0 && sameK (joinK a b) b) := rfl
  generalize withinK a b = R at hF he ⊢
  obtain ⟨W, hW, r1, r2, hz, hb⟩ := two_new w X Y 34
  have hBW : B ≤ W.heap.size := by omega
  have KJ := hide (joinK_any W B X Y a b va vb ca cb (h.below hb hB) (h'.below hb hB) hBW)
  have KS := hide (fun (W1 : World) (M : Array Value) (vm : Option Addr) (cm : Nat) (hm : KnV W1 W1.heap.size M (joinK a b) vm cm) (bl : Below W.heap.size W W1) => sameK_any W1 W1.heap.size M Y (joinK a b) b vm vb cm cb hm (((h'.below hb hB).below bl hBW).more (Nat.le_trans hBW bl.size)) (Nat.le_refl _))
  generalize joinE a b = E at KJ he
  generalize sameK (joinK a b) b = s at KS he
  have hxs := h.rc.size
  have hxx := h.rc.x0
  have hys := h'.rc.size
  have hyx := h'.rc.x0
  have HB := hide hb
  have HZ := hide hz
  obtain ⟨q, hq⟩ : ∃ q, (E == 0) = q := ⟨_, rfl⟩
  rw [hq] at he
  have HE := hide he
  clear h h' hb hz he hBW
  go_enter Try.func15, Try.ntmps15
  go_wp2_with fail
  refine KJ.out.mono ?_
  rintro e w1 ⟨M, rfl, vm, cm, km, om, bm⟩
  dsimp only
  have ms := km.rc.size
  have mx := km.rc.x0
  have mo := km.rc.one
  have r2' := (bm.block (w.heap.size + 1) (by have := HZ.out; omega)).trans r2
  have B1 := hide (HB.out.trans (bm.mono (by have := HZ.out; omega)))
  have Z1 := hide bm.size
  have BM := hide bm
  have HKM := hide km
  clear r1 r2 bm km om KJ
  go_upto_region 2 with (fail)
  obtain ⟨w2, hw2, r1, z2, b2⟩ := alloc_nam w1 (.cells M 34)
  rw [hw2]
  have r2 := (b2.block (w.heap.size + 1) (by have := HZ.out; have := Z1.out; omega)).trans r2'
  have B2 := hide (B1.out.trans (b2.mono (by have := HZ.out; have := Z1.out; omega)))
  have KS2 := hide (KS.out w2 M vm cm ((HKM.out.below b2 (Nat.le_refl _)).more b2.size) (BM.out.trans (b2.mono Z1.out)))
  have Z2 := hide z2
  obtain ⟨g1, hg1⟩ : ∃ g, w1.heap.size = g := ⟨_, rfl⟩
  rw [hg1] at r1 ⊢
  clear hw2 z2 b2 r2' hg1 KS
  cases q
  · have hR : Hid (R = false) := hide (by rw [HE.out]; rfl)
    go_wp2
    go_ret
    exact hF.out _ _ B2.out hR.out.symm
  · have hR : Hid (R = s) := hide (by rw [HE.out]; rfl)
    go_wp2_with fail
    refine KS2.out.mono ?_
    rintro e w3 ⟨rfl, b3⟩
    dsimp only
    have B3 := hide (B2.out.trans (b3.mono (by have := HZ.out; have := Z1.out; have := Z2.out; omega)))
    clear b3
    go_wp2
    go_ret
    exact hF.out _ _ B3.out hR.out.symm
end Go.Proofs.Ytmbddengmheeeaa
