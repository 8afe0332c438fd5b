/-
  What must come of fixed calls: known.
-/
import Derived.Test.YtmbddengmheeeaaLfn
namespace Go.Proofs.Ytmbddengmheeeaa
open Go.RowKit
set_option maxRecDepth 100000
set_option linter.unusedVariables false
set_option linter.unusedSimpArgs false
attribute [local go_sem ↓] exec_span exec_put exec_build heap_alloc_new heap_old
attribute [local go_sem] spanQ_ptr spanC_some heap_of_drew heap_of_drewN rs_ad rs_spec rs_rec putAt_ptr putOk_ptr oldOk_some store_fl World.setRow_alloc_new

def kOf (g l s : Int) : Kn := ⟨g, l, ⟨s, 0, false, List.replicate 16 0, 4607182418800017408⟩, [], 0⟩
theorem built_sK (s : Int) : Try.prog.built 31 [(0, .int .i64 s), (3, .float .f64 4607182418800017408)] = some (spL (kOf 0 0 s).sp).toArray := by kernel_rfl
theorem built_kK (g l s : Int) : Try.prog.built 34 [(0, .int .i64 g), (1, .int .i64 l), (2, .agg (spL (kOf 0 0 s).sp).toArray)] = some (rcL ((kOf g l s).rc none 0)).toArray := by kernel_rfl
theorem kOf_ok (w : World) (g l s : Int) : KnV w 0 (rcL ((kOf g l s).rc none 0)).toArray (kOf g l s) none 0 :=
  ⟨⟨rfl, by simp [Kn.rc, kOf], by show 4607182418800017408 < 2 ^ 64; decide⟩, VoS.nil _ _ _, by simp [kOf], fun _ => rfl, by simp [kOf]⟩
theorem k_ab : joinK (kOf 1 1 5) (kOf 1 2 4) = kOf 1 2 5 ∧ joinE (kOf 1 1 5) (kOf 1 2 4) = 0 := by
  constructor <;> kernel_rfl
theorem k_jc : joinK (kOf 1 2 5) (kOf 2 1 6) = kOf 2 1 6 ∧ joinE (kOf 1 2 5) (kOf 2 1 6) = 0 := by
  constructor <;> kernel_rfl
theorem k_well : wellK (kOf 1 1 5) 3 = true := by kernel_rfl
theorem k_over : overK (kOf 1 1 5) 3 = false := by kernel_rfl
theorem rc_c2 {X : Array Value} {r : Rcd} (h : RcV X r) {w : World} {g : Nat} {ty : TypeId} (hg : w.heap[g]? = some (.cells X ty (0, 0))) : w.cell? ⟨g, 2, none⟩ = some (.int .i64 r.sp.st) :=
  (cell_of_row w g 2 X ty (0, 0) hg).trans (by rw [h.eq]; rfl)
theorem alloc_nam (w : World) (o : Obj) : ∃ W, w.alloc o = W ∧ W.heap[w.heap.size]? = some o ∧ W.heap.size = w.heap.size + 1 ∧ Below w.heap.size w W := by
  refine ⟨_, rfl, heap_alloc_new _ _, by simp, (Below.refl _ _).alloc (Nat.le_refl _) _⟩
set_option maxHeartbeats 8000000 in
theorem knownL_any (w : World) : Calls Try.prog 12 #[] w (BoolP w true) := by
  have hF : Hid (∀ w' r, Below w.heap.size w w' → r = true → BoolP w true (.returned (.bool r)) w') := hide fun w' r hb hr => ⟨by rw [hr], hb⟩
  have b1 := built_sK 5
  have b2 := built_sK 4
  have b3 := built_sK 6
  have c1 := built_kK 1 1 5
  have c2 := built_kK 1 2 4
  have c3 := built_kK 2 1 6
  have K1 := hide (fun (W1 : World) => (kOf_ok W1 1 1 5))
  have K2 := hide (fun (W1 : World) => (kOf_ok W1 1 2 4))
  have K3 := hide (fun (W1 : World) => (kOf_ok W1 2 1 6))
  have KJ := hide (fun W => joinK_any W 0 _ _ _ _ _ _ _ _ (K1.out W) (K2.out W) (Nat.zero_le _))
  rw [k_ab.1, k_ab.2] at KJ
  have x1s := (K1.out w).rc.size
  have x1x := (K1.out w).rc.x0
  have x1o := (K1.out w).rc.one
  have x2s := (K2.out w).rc.size
  have x2x := (K2.out w).rc.x0
  have x2o := (K2.out w).rc.one
  have x3s := (K3.out w).rc.size
  have x3x := (K3.out w).rc.x0
  have x3o := (K3.out w).rc.one
  generalize (spL (kOf 0 0 5).sp).toArray = S5 at *
  generalize (spL (kOf 0 0 4).sp).toArray = S4 at *
  generalize (spL (kOf 0 0 6).sp).toArray = S6 at *
  generalize (rcL ((kOf 1 1 5).rc none 0)).toArray = X1 at *
  generalize (rcL ((kOf 1 2 4).rc none 0)).toArray = X2 at *
  generalize (rcL ((kOf 2 1 6).rc none 0)).toArray = X3 at *
  go_enter Try.func12, Try.ntmps12
  go_upto_region 2 with (fail)
  obtain ⟨w1, hw1, r1, z1, B1⟩ := alloc_nam w (.cells X1 34)
  rw [hw1]
  have Z1 := hide z1
  have HB1 := hide B1
  clear hw1 z1 B1
  go_upto_region 3 with (fail)
  obtain ⟨w2, hw2, r2, z2, B2⟩ := alloc_nam w1 (.cells X2 34)
  rw [hw2]
  have r1' := (B2.block w.heap.size (by have := Z1.out; omega)).trans r1
  have Z2 := hide z2
  have HB2 := hide (HB1.out.trans (B2.mono (by have := Z1.out; omega)))
  obtain ⟨g2, hg2⟩ : ∃ g, w1.heap.size = g := ⟨_, rfl⟩
  rw [hg2] at r2 ⊢
  have G2 := hide hg2
  clear hw2 z2 B2 r1 hg2
  go_wp2_with fail
  refine (KJ.out _).mono ?_
  rintro e w3 ⟨J, rfl, vj, cj, kj, oj, bj⟩
  dsimp only
  have r1 := (bj.block w.heap.size (by have := Z1.out; have := Z2.out; omega)).trans r1'
  have js := kj.rc.size
  have jx := kj.rc.x0
  have jo := kj.rc.one
  have HB3 := hide (HB2.out.trans (bj.mono (by have := Z1.out; have := Z2.out; omega)))
  have Z3 : Hid (w.heap.size + 2 ≤ w3.heap.size) := hide (by have := Z1.out; have := Z2.out; have := bj.size; omega)
  have HJ := hide kj
  clear kj oj bj r1' r2 KJ
  go_upto_region 4 with (fail)
  obtain ⟨w4, hw4, r2, z4, B4⟩ := alloc_nam w3 (.cells J 34)
  rw [hw4]
  have r1' := (B4.block w.heap.size (by have := Z3.out; omega)).trans r1
  have Z4 := hide z4
  have HB4 := hide (HB3.out.trans (B4.mono (by have := Z3.out; omega)))
  have BJ4 := hide (HJ.out.below B4 (Nat.le_refl _))
  obtain ⟨g3, hg3⟩ : ∃ g, w3.heap.size = g := ⟨_, rfl⟩
  rw [hg3] at r2 ⊢
  have G3 := hide hg3
  clear hw4 z4 B4 r1 hg3
  go_upto_region 5 with (fail)
  obtain ⟨w5, hw5, r3, z5, B5⟩ := alloc_nam w4 (.cells X3 34)
  rw [hw5]
  have r1 := (B5.block w.heap.size (by have := Z3.out; have := Z4.out; omega)).trans r1'
  have r2' := (B5.block g3 (by have := G3.out; have := Z4.out; omega)).trans r2
  have Z5 := hide z5
  have HB5 := hide (HB4.out.trans (B5.mono (by have := Z3.out; have := Z4.out; omega)))
  have KJ2 := hide (joinK_any w5 w3.heap.size J X3 (kOf 1 2 5) (kOf 2 1 6) vj none cj 0 (BJ4.out.below B5 (by have := Z4.out; omega)) ((K3.out w5).more (Nat.zero_le _)) (by have := Z4.out; omega))
  rw [k_jc.1, k_jc.2] at KJ2
  obtain ⟨g5, hg5⟩ : ∃ g, w4.heap.size = g := ⟨_, rfl⟩
  rw [hg5] at r3 ⊢
  have G5 := hide hg5
  clear hw5 z5 B5 r1' r2 hg5
  go_wp2_with fail
  refine KJ2.out.mono ?_
  rintro e w6 ⟨M, rfl, vm, cm, km, om, bm⟩
  dsimp only
  have r1' := (bm.block w.heap.size (by have := Z3.out; have := Z4.out; have := Z5.out; omega)).trans r1
  have r2 := (bm.block g3 (by have := G3.out; have := Z4.out; have := Z5.out; omega)).trans r2'
  have HB6 := hide (HB5.out.trans (bm.mono (by have := Z3.out; have := Z4.out; have := Z5.out; omega)))
  have Z6 : Hid (w3.heap.size + 2 ≤ w6.heap.size) := hide (by have := Z4.out; have := Z5.out; have := bm.size; omega)
  have HM := hide km.rc
  have ms := km.rc.size
  have mx := km.rc.x0
  have mo := km.rc.one
  clear km om bm r1 r2' r3 KJ2
  go_upto_region 6 with (fail)
  obtain ⟨w7, hw7, r3, z7, B7⟩ := alloc_nam w6 (.cells M 34)
  rw [hw7]
  have r1 := (B7.block w.heap.size (by have := Z3.out; have := Z6.out; omega)).trans r1'
  have r2' := (B7.block g3 (by have := G3.out; have := Z6.out; omega)).trans r2
  have HB7 := hide (HB6.out.trans (B7.mono (by have := Z3.out; have := Z6.out; omega)))
  have Z7 := hide z7
  obtain ⟨g7, hg7⟩ : ∃ g, w6.heap.size = g := ⟨_, rfl⟩
  rw [hg7] at r3 ⊢
  obtain ⟨-, j1, -, -⟩ := HJ.out.rc.cells r2'
  have j2 := rc_c2 HJ.out.rc r2'
  obtain ⟨m0, m1, -, -⟩ := HM.out.cells r3
  simp only [Kn.rc, kOf] at j1 j2 m0 m1
  have KW := hide (wellK_any w7 0 X1 _ none 0 3 (K1.out w7) (Nat.zero_le _))
  rw [k_well] at KW
  have KO := hide (fun W1 => overK_any W1 0 X1 _ none 0 3 (K1.out W1) (Nat.zero_le _))
  rw [k_over] at KO
  clear hw7 z7 r1' r2 hg7 r3 r2'
  go_wp2_with fail
  refine KW.out.mono ?_
  rintro e w8 ⟨rfl, b8⟩
  dsimp only
  have r1' := (b8.block w.heap.size (by have := Z3.out; have := Z6.out; have := Z7.out; omega)).trans r1
  have HB8 := hide (HB7.out.trans (b8.mono (by have := Z3.out; have := Z6.out; have := Z7.out; omega)))
  have Z8 := hide b8.size
  clear b8 r1 j1 j2 m0 m1
  go_wp2_with fail
  refine (KO.out _).mono ?_
  rintro e w9 ⟨rfl, b9⟩
  dsimp only
  have HB9 := hide (HB8.out.trans (b9.mono (by have := Z3.out; have := Z6.out; have := Z7.out; have := Z8.out; omega)))
  clear b9
  go_wp2
  go_ret
  exact hF.out _ _ HB9.out rfl
end Go.Proofs.Ytmbddengmheeeaa
