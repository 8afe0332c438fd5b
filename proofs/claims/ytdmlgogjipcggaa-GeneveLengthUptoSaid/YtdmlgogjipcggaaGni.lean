/-
  The walk of taken: a tunnel as the document has it.
-/
import Derived.Test.YtdmlgogjipcggaaGnh
import Derived.Test.YtdmlgogjipcggaaRz
namespace Go.Proofs.Ytdmlgogjipcggaa
open Go.RowKit
set_option maxRecDepth 100000
set_option linter.unusedVariables false
set_option linter.unusedSimpArgs false
attribute [local go_sem ↓] exec_span exec_put exec_build heap_alloc_new heap_old
attribute [local go_sem] spanQ_ptr spanC_some heap_of_drew heap_of_drewN putAt_ptr putOk_ptr oldOk_some World.setRow_alloc_new rs_tunG rs_rtunG rs_optG rs_roptG built_tunG built_rtunG built_optG built_roptG

theorem tunA_size (o : Bool) (p v : Int) (A : Option Addr) (n c : Nat) (I : Option Addr) (m k : Nat) : (tunA o p v A n c I m k).size = 5 := rfl
theorem tunA_one (o : Bool) (p v : Int) (A : Option Addr) (n c : Nat) (I : Option Addr) (m k : Nat) : allOne (tunA o p v A n c I m k) = true := by simp [tunA, allOne, Value.oneCell']
theorem tunA_x0 (o : Bool) (p v : Int) (A : Option Addr) (n c : Nat) (I : Option Addr) (m k : Nat) : (tunA o p v A n c I m k).extract 0 5 = tunA o p v A n c I m k := rfl
theorem alloc_tl (w : World) (o : Obj) : ∃ W, w.alloc o = W ∧ W.heap[w.heap.size]? = some o ∧ W.heap.size = w.heap.size + 1 ∧ Below w.heap.size w W :=
  ⟨_, rfl, heap_alloc_new _ _, by simp, (Below.refl _ _).alloc (Nat.le_refl _) _⟩
theorem grown_rowT (w : World) (g : Nat) (cs : Array Value) : w.grownBy (w.setRow g cs) (some g) :=
  ⟨rfl, rfl, rfl, by rw [setRow_size]; exact Nat.le_refl _, fun k hk hne => setRow_other w g k cs (fun e => hne (by rw [e]))⟩
/-- what given and taken hand back. -/
def TunP (w : World) (T : TuD) (e : Ending) (w' : World) : Prop := ∃ Y, e = .returned (.agg Y) ∧ TuG w' Y T ∧ Below w.heap.size w w'
set_option maxHeartbeats 8000000 in
theorem takenG_any (w : World) (X : Array Value) (T : TuD) (h : TuG w X T) (hl : T.l.length ≤ 1048576) :
    Calls Try.prog 10 #[.agg X] w (TunP w T) := by
  obtain ⟨A0, c0, l0, I0, k0, hX, hp⟩ := h
  obtain ⟨i0, hi, hz0, hz1, hz2⟩ := info_parts info_roptG
  have hlen := hp.len
  obtain ⟨n, hn⟩ : ∃ n, n = l0.length := ⟨_, rfl⟩
  rw [← hn] at hX hlen
  have HP := hide hp
  have HN := hide hn
  have HLEN := hide hlen
  have hn20 : n ≤ 1048576 := by rw [hlen]; exact hl
  obtain ⟨m, hm⟩ : ∃ m, m = T.D.length := ⟨_, rfl⟩
  rw [← hm] at hX
  have HM := hide hm
  obtain ⟨ou, hto⟩ : ∃ x, x = T.o := ⟨_, rfl⟩
  obtain ⟨tp, htp⟩ : ∃ x, x = T.p := ⟨_, rfl⟩
  obtain ⟨tv, htv⟩ : ∃ x, x = T.v := ⟨_, rfl⟩
  rw [← hto, ← htp, ← htv] at hX
  have HT := hide (And.intro hto (And.intro htp htv))
  have xs : X.size = 5 := by rw [hX]; rfl
  have xo : allOne X = true := by rw [hX]; exact tunA_one _ _ _ _ _ _ _ _ _
  have hcells := fun (W : World) (r : W.heap[w.heap.size]? = some (.cells X 28 (0, 0))) => (by rw [hX] at r; exact tunA_cells r : W.cell? ⟨w.heap.size, 0, none⟩ = some (.bool ou) ∧ W.cell? ⟨w.heap.size, 1, none⟩ = some (.int .i64 tp) ∧ W.cell? ⟨w.heap.size, 2, none⟩ = some (.int .i64 tv) ∧ W.cell? ⟨w.heap.size, 3, none⟩ = some (.slice A0 n c0) ∧ W.cell? ⟨w.heap.size, 4, none⟩ = some (.slice I0 m k0))
  have HC := hide hcells
  obtain ⟨Y0, hY0⟩ : ∃ Y, Y = tunA ou tp tv none 0 0 I0 m k0 := ⟨_, rfl⟩
  have hb0 := built_rtunG ou tp tv I0 m k0
  rw [← hY0] at hb0
  have y0s : Y0.size = 5 := by rw [hY0]; rfl
  have y0o : allOne Y0 = true := by rw [hY0]; exact tunA_one _ _ _ _ _ _ _ _ _
  have HY0 := hide hY0
  clear hp hn hlen hm hto htp htv hX hcells hY0 hl
  go_enter Try.func10, Try.ntmps10
  go_upto_region 1 with (fail)
  change Code.wp _ _ _ _ ((w.alloc (.cells X _)).alloc (.cells (tunA false 0 0 none 0 0 none 0 0) 25))
  obtain ⟨W0, hW0, r0, z0, b0⟩ := alloc_tl w (.cells X 28)
  rw [hW0]
  obtain ⟨W1, hW1, r1, z1, b1⟩ := alloc_tl W0 (.cells (tunA false 0 0 none 0 0 none 0 0) 25)
  rw [hW1]
  have r0' := (b1.block w.heap.size (by omega)).trans r0
  obtain ⟨d0, d1, d2, d3, d4⟩ := HC.out W1 r0'
  rw [z0] at r1
  obtain ⟨g1, hg1⟩ : ∃ g, w.heap.size + 1 = g := ⟨_, rfl⟩
  rw [hg1] at r1 ⊢
  have Z0 := hide (And.intro z0 (And.intro z1 hg1))
  have HB1 := hide (b0.trans (b1.mono (by omega)))
  clear hW0 hW1 z0 z1 b0 b1 hg1 r0
  go_upto_region 2 with (fail)
  obtain ⟨W2, hW2, r2, z2, b2⟩ := alloc_tl W1 (.cells Y0 25)
  rw [hW2]
  have q0 := (b2.block w.heap.size (by have := Z0.out; omega)).trans r0'
  have q1 := (b2.block g1 (by have := Z0.out; omega)).trans r1
  obtain ⟨g2, hg2⟩ : ∃ g, W1.heap.size = g := ⟨_, rfl⟩
  rw [hg2] at r2 ⊢
  have Z2 := hide (And.intro z2 hg2)
  have HB2 := hide (HB1.out.trans (b2.mono (by have := Z0.out; omega)))
  have HS0 : Hid (TlI w W2 g2 g1 25 58 T 0 none 0 I0 k0 []) := hide ⟨by rw [r2, HY0.out, HT.out.1, HT.out.2.1, HT.out.2.2, HM.out]; rfl, OgS.nil _ _ _, rfl, fun x hx => by simp at hx, (HP.out.i.below HB2.out).more HB2.out.size, fun hp a e => ⟨by have h9 := HP.out.i.blk hp e; have h8 := Z0.out; have h7 := Z2.out; constructor <;> omega, by simp [Value.ownBlock]⟩, HP.out.inn, HP.out.ik, HB2.out, by have := Z0.out; omega⟩
  have HQ := hide (And.intro q0 q1)
  clear hW2 z2 hg2 b2 r0' r1 d0 d1 d2 d3 d4 r2 q0 q1 hb0 y0s y0o
  go_wp2
  go_loopw [4] (fun i wr => ∃ (j : Nat) (A : Option Addr) (c : Nat) (l : List OpG), j ≤ n ∧ i = .int .i64 (j : Int) ∧ Hid (TlI w wr g2 g1 25 58 T j A c I0 k0 l) ∧ Hid (wr.heap[w.heap.size]? = some (.cells X 28 (0, 0)) ∧ wr.heap[g1]? = some (.cells (tunA false 0 0 none 0 0 none 0 0) 25 (0, 0)))) (fun i _ => n - (intOf i).toNat)
  case atStart => exact ⟨0, none, 0, [], by omega, rfl, HS0, HQ⟩
  case round =>
    obtain ⟨j, A, c, l, hj, rfl, hI, hQ⟩ := hrel
    obtain ⟨d0, d1, d2, d3, d4⟩ := HC.out wr hQ.out.1
    have hll := hI.out.len (by rw [← HLEN.out]; exact hj)
    by_cases hlt : j < n
    · have hjl : j < l0.length := by rw [← HN.out]; exact hlt
      obtain ⟨b, off, rfl, hbB, hc⟩ := HP.out.rd (by omega)
      obtain ⟨e0, e1, e2⟩ := hc j hjl
      have hsay := say_get HP.out.say hjl (by rw [← HLEN.out]; exact hlt)
      have hob := HP.out.ob l0[j] (List.getElem_mem hjl)
      obtain ⟨x, hx⟩ : ∃ x, x = l0[j] := ⟨_, rfl⟩
      rw [← hx] at e0 e1 e2 hsay hob
      obtain ⟨xc, xt, xa, xk, xd⟩ := x
      simp only at e0 e1 e2
      obtain ⟨xn, hxn⟩ : ∃ k, k = xd.length := ⟨_, rfl⟩
      rw [← hxn] at e2
      have HXN := hide hxn
      have f0 : wr.cell? ⟨b, off + j * 3, none⟩ = some (.int .i64 xc) := (hI.out.bel.cell (show (⟨b, off + j * 3, none⟩ : Addr).block < w.heap.size from hbB)).trans e0
      have f1 : wr.cell? ⟨b, off + j * 3 + 1, none⟩ = some (.int .i64 xt) := (hI.out.bel.cell (show (⟨b, off + j * 3 + 1, none⟩ : Addr).block < w.heap.size from hbB)).trans e1
      have f2 : wr.cell? ⟨b, off + j * 3 + 2, none⟩ = some (.slice xa xn xk) := (hI.out.bel.cell (show (⟨b, off + j * 3 + 2, none⟩ : Addr).block < w.heap.size from hbB)).trans e2
      have HSAY := hide hsay
      have HOB := hide hob
      have hown := hI.out.og.row
      have hbx := hI.out.box
      rw [hll] at hown hbx
      obtain ⟨y0, y1, y2, y3, y4⟩ := tunA_cells hbx
      have hA : (.slice A j c : Value).ownBlock ≠ some g2 := fun e => by have := (World.ownsRow.lt hown _ e).1; omega
      have HO := hide hown
      have HA := hide hA
      have HBX := hide hbx
      have HQL : Hid (w.heap.size < wr.heap.size) := hide (Array.getElem?_eq_some_iff.1 hQ.out.1).1
      have HBL : Hid (b < wr.heap.size) := hide (Nat.lt_of_lt_of_le hbB hI.out.bel.size)
      have hbB' : b < w.heap.size := hbB
      have HBB := hide hbB'
      have HLL := hide hll
      have HG2 := hide hI.out.lt
      have hj1 : (j : Int) < (n : Int) := by omega
      have hj0 : (0 : Int) ≤ (j : Int) := by omega
      clear hc e0 e1 e2 hsay hob hx hown hbx hA hll hbB hbB' hxn d0 d1 d2 d4 y0 y1 y2 y4 hjl
      have hown0 := HO.out
      have HLIT : Hid ((wr.drew.alloc (.cells #[.int .i64 xc, .int .i64 xt, .slice xa xn xk] 58)).heap[wr.heap.size]? = some (.cells #[.int .i64 xc, .int .i64 xt, .slice xa xn xk] 58 (0, 0))) := hide (heap_alloc_new wr.drew _)
      have HO2 : Hid ((wr.drew.alloc (.cells #[.int .i64 xc, .int .i64 xt, .slice xa xn xk] 58)).ownsRow (g2 + 1) 58 3 (.slice A j c) j (ogsC l)) := hide (World.ownsRow.alloc (w := wr.drew) hown0 _)
      have HB0 : Hid (Below wr.heap.size wr wr.drew) := hide (Below.refl _ _).drew
      have HBA : Hid (Below wr.heap.size wr (wr.drew.alloc (.cells #[.int .i64 xc, .int .i64 xt, .slice xa xn xk] 58))) := hide (HB0.out.alloc (Nat.le_refl _) _)
      have HB1 : Hid (j + 1 ≤ maxLen) := hide (by unfold maxLen; omega)
      have HB2 : Hid ((j + 1) * 40 ≤ 140737488355328) := hide (by omega)
      have HB3 : Hid (g2 + 1 ≤ (wr.drew.alloc (.cells #[.int .i64 xc, .int .i64 xt, .slice xa xn xk] 58)).heap.size) := hide (by have h0 := HG2.out; have h1 := HBA.out.size; omega)
      have HB4 : Hid ((wr.drew.alloc (.cells #[.int .i64 xc, .int .i64 xt, .slice xa xn xk] 58)).heap.size = wr.heap.size + 1) := hide (by simp)
      have HKP := hide (fun (W : World) (hb : Below wr.heap.size wr W) => (⟨(hb.cell (show (⟨w.heap.size, 3, none⟩ : Addr).block < wr.heap.size from HQL.out)).trans d3, (hb.cell (show (⟨b, off + j * 3, none⟩ : Addr).block < wr.heap.size from HBL.out)).trans f0, (hb.cell (show (⟨b, off + j * 3 + 1, none⟩ : Addr).block < wr.heap.size from HBL.out)).trans f1, (hb.cell (show (⟨b, off + j * 3 + 2, none⟩ : Addr).block < wr.heap.size from HBL.out)).trans f2, (hb.cell (show (⟨g2, 3, none⟩ : Addr).block < wr.heap.size from HG2.out)).trans y3⟩ : W.cell? ⟨w.heap.size, 3, none⟩ = some (.slice (some ⟨b, off, none⟩) n c0) ∧ W.cell? ⟨b, off + j * 3, none⟩ = some (.int .i64 xc) ∧ W.cell? ⟨b, off + j * 3 + 1, none⟩ = some (.int .i64 xt) ∧ W.cell? ⟨b, off + j * 3 + 2, none⟩ = some (.slice xa xn xk) ∧ W.cell? ⟨g2, 3, none⟩ = some (.slice A j c)))
      have HKG := hide (fun (W : World) (hg : (wr.drew.alloc (.cells #[.int .i64 xc, .int .i64 xt, .slice xa xn xk] 58)).grownBy W (Value.slice A j c).ownBlock) => (by
        obtain ⟨k0', k1', k2', k3', k4'⟩ := HKP.out _ HBA.out
        have hlo := hI.out.lo
        have hbb := HBB.out
        have hne : ∀ i, i ≤ g2 → some i ≠ (Value.slice A j c).ownBlock := fun i hi e => by have := (World.ownsRow.lt hown0 i e.symm).1; omega
        exact ⟨hg.cell k0' (hne _ (by show w.heap.size ≤ g2; omega)), hg.cell k1' (hne _ (by show b ≤ g2; omega)), hg.cell k2' (hne _ (by show b ≤ g2; omega)), hg.cell k3' (hne _ (by show b ≤ g2; omega)), hg.cell k4' (hne _ (Nat.le_refl _))⟩ : W.cell? ⟨w.heap.size, 3, none⟩ = some (.slice (some ⟨b, off, none⟩) n c0) ∧ W.cell? ⟨b, off + j * 3, none⟩ = some (.int .i64 xc) ∧ W.cell? ⟨b, off + j * 3 + 1, none⟩ = some (.int .i64 xt) ∧ W.cell? ⟨b, off + j * 3 + 2, none⟩ = some (.slice xa xn xk) ∧ W.cell? ⟨g2, 3, none⟩ = some (.slice A j c)))
      clear hown0 y3 f0 f1 f2
      go_wp2_with fail
      refine wp_region_upZ (S := (fun w' => w'.cell? ⟨w.heap.size, 3, none⟩ = some (.slice (some ⟨b, off, none⟩) n c0) ∧ w'.cell? ⟨b, off + j * 3, none⟩ = some (.int .i64 xc) ∧ w'.cell? ⟨b, off + j * 3 + 1, none⟩ = some (.int .i64 xt) ∧ w'.cell? ⟨b, off + j * 3 + 2, none⟩ = some (.slice xa xn xk) ∧ w'.cell? ⟨g2, 3, none⟩ = some (.slice A j c))) 24 (by kernel_rfl) (HKP.out _ HB0.out) (fun hHeld => ?_)
      refine upZ_take (i := 0) (oi := ⟨some 21, _, _, _, _, _⟩) (v := ?_) rfl (by kernel_rfl) (by kernel_rfl) (by kernel_rfl) (by kernel_rfl) (fun _ _ _ h => h) (Or.inl ⟨by rfl, ?_⟩) hHeld ?_
      rotate_left
      · (intro w' hSw; (try dsimp only at hSw); go_split_ands; go_simp; try with_reducible rfl)
      (try simp only [Act.put, List.setIfInBounds_toArray, List.set_cons_zero, List.set_cons_succ])
      refine upZ_take (i := 1) (oi := ⟨some 22, _, _, _, _, _⟩) (v := ?_) rfl (by kernel_rfl) (by kernel_rfl) (by kernel_rfl) (by kernel_rfl) (fun _ _ _ h => h) (Or.inl ⟨by rfl, ?_⟩) hHeld ?_
      rotate_left
      · (intro w' hSw; (try dsimp only at hSw); go_split_ands; go_simp; try with_reducible rfl)
      (try simp only [Act.put, List.setIfInBounds_toArray, List.set_cons_zero, List.set_cons_succ])
      refine upZ_take (i := 2) (oi := ⟨some 23, _, _, _, _, _⟩) (v := ?_) rfl (by kernel_rfl) (by kernel_rfl) (by kernel_rfl) (by kernel_rfl) (fun _ _ _ h => h) (Or.inl ⟨by rfl, ?_⟩) hHeld ?_
      rotate_left
      · (intro w' hSw; (try dsimp only at hSw); go_split_ands; go_simp; try with_reducible rfl)
      (try simp only [Act.put, List.setIfInBounds_toArray, List.set_cons_zero, List.set_cons_succ])
      refine upZ_take (i := 3) (oi := ⟨some 24, _, _, _, _, _⟩) (v := ?_) rfl (by kernel_rfl) (by kernel_rfl) (by kernel_rfl) (by kernel_rfl) (fun _ _ _ h => h) (Or.inl ⟨by rfl, ?_⟩) hHeld ?_
      rotate_left
      · (intro w' hSw; (try dsimp only at hSw); go_split_ands; go_simp; try with_reducible rfl)
      (try simp only [Act.put, List.setIfInBounds_toArray, List.set_cons_zero, List.set_cons_succ])
      refine upZ_take (i := 4) (oi := ⟨some 25, _, _, _, _, _⟩) (v := ?_) rfl (by kernel_rfl) (by kernel_rfl) (by kernel_rfl) (by kernel_rfl) (fun _ _ _ h => h) (Or.inl ⟨by rfl, ?_⟩) hHeld ?_
      rotate_left
      · (intro w' hSw; (try dsimp only at hSw); go_split_ands; go_simp; try with_reducible rfl)
      (try simp only [Act.put, List.setIfInBounds_toArray, List.set_cons_zero, List.set_cons_succ])
      refine upZ_take (i := 5) (oi := ⟨some 26, _, _, _, _, _⟩) (v := ?_) rfl (by kernel_rfl) (by kernel_rfl) (by kernel_rfl) (by kernel_rfl) (fun _ _ _ h => h) (Or.inl ⟨by rfl, ?_⟩) hHeld ?_
      rotate_left
      · (intro w' hSw; (try dsimp only at hSw); go_split_ands; go_simp; try with_reducible rfl)
      (try simp only [Act.put, List.setIfInBounds_toArray, List.set_cons_zero, List.set_cons_succ])
      refine upZ_take (i := 6) (oi := ⟨some 27, _, _, _, _, _⟩) (v := ?_) rfl (by kernel_rfl) (by kernel_rfl) (by kernel_rfl) (by kernel_rfl) (fun _ _ _ h => h) (Or.inl ⟨by rfl, ?_⟩) hHeld ?_
      rotate_left
      · (intro w' hSw; (try dsimp only at hSw); go_split_ands; go_simp; try with_reducible rfl)
      (try simp only [Act.put, List.setIfInBounds_toArray, List.set_cons_zero, List.set_cons_succ])
      refine upZ_take (i := 7) (oi := ⟨some 28, _, _, _, _, _⟩) (v := ?_) rfl (by kernel_rfl) (by kernel_rfl) (by kernel_rfl) (by kernel_rfl) (fun _ _ _ h => h) (Or.inl ⟨by rfl, ?_⟩) hHeld ?_
      rotate_left
      · (intro w' hSw; (try dsimp only at hSw); go_split_ands; go_simp; try with_reducible rfl)
      (try simp only [Act.put, List.setIfInBounds_toArray, List.set_cons_zero, List.set_cons_succ])
      refine upZ_take (i := 8) (oi := ⟨some 29, _, _, _, _, _⟩) (v := ?_) rfl (by kernel_rfl) (by kernel_rfl) (by kernel_rfl) (by kernel_rfl) (fun _ _ _ h => h) (Or.inl ⟨by rfl, ?_⟩) hHeld ?_
      rotate_left
      · (intro w' hSw; (try dsimp only at hSw); go_split_ands; go_simp; try with_reducible rfl)
      (try simp only [Act.put, List.setIfInBounds_toArray, List.set_cons_zero, List.set_cons_succ])
      refine upZ_take (i := 9) (oi := ⟨some 30, _, _, _, _, _⟩) (v := ?_) rfl (by kernel_rfl) (by kernel_rfl) (by kernel_rfl) (by kernel_rfl) (fun _ _ _ h => h) (Or.inl ⟨by rfl, ?_⟩) hHeld ?_
      rotate_left
      · (intro w' hSw; (try dsimp only at hSw); go_split_ands; go_simp; try with_reducible rfl)
      (try simp only [Act.put, List.setIfInBounds_toArray, List.set_cons_zero, List.set_cons_succ])
      refine upZ_take (i := 10) (oi := ⟨some 31, _, _, _, _, _⟩) (v := ?_) rfl (by kernel_rfl) (by kernel_rfl) (by kernel_rfl) (by kernel_rfl) (fun _ _ _ h => h) (Or.inl ⟨by rfl, ?_⟩) hHeld ?_
      rotate_left
      · (intro w' hSw; (try dsimp only at hSw); go_split_ands; go_simp; try with_reducible rfl)
      (try simp only [Act.put, List.setIfInBounds_toArray, List.set_cons_zero, List.set_cons_succ])
      refine upZ_take (i := 11) (oi := ⟨some 32, _, _, _, _, _⟩) (v := ?_) rfl (by kernel_rfl) (by kernel_rfl) (by kernel_rfl) (by kernel_rfl) (fun _ _ _ h => h) (Or.inl ⟨by rfl, ?_⟩) hHeld ?_
      rotate_left
      · (intro w' hSw; (try dsimp only at hSw); go_split_ands; go_simp; try with_reducible rfl)
      (try simp only [Act.put, List.setIfInBounds_toArray, List.set_cons_zero, List.set_cons_succ])
      refine upZ_take (i := 12) (oi := ⟨some 33, _, _, _, _, _⟩) (v := ?_) rfl (by kernel_rfl) (by kernel_rfl) (by kernel_rfl) (by kernel_rfl) (fun _ _ _ h => h) (Or.inl ⟨by rfl, ?_⟩) hHeld ?_
      rotate_left
      · (intro w' hSw; (try dsimp only at hSw); go_split_ands; go_simp; try with_reducible rfl)
      (try simp only [Act.put, List.setIfInBounds_toArray, List.set_cons_zero, List.set_cons_succ])
      refine upZ_take (i := 13) (oi := ⟨some 34, _, _, _, _, _⟩) (v := ?_) rfl (by kernel_rfl) (by kernel_rfl) (by kernel_rfl) (by kernel_rfl) (fun _ _ _ h => h) (Or.inl ⟨by rfl, ?_⟩) hHeld ?_
      rotate_left
      · (intro w' hSw; (try dsimp only at hSw); go_split_ands; go_simp; try with_reducible rfl)
      (try simp only [Act.put, List.setIfInBounds_toArray, List.set_cons_zero, List.set_cons_succ])
      refine upZ_take (i := 14) (oi := ⟨some 35, _, _, _, _, _⟩) (v := ?_) rfl (by kernel_rfl) (by kernel_rfl) (by kernel_rfl) (by kernel_rfl) (fun _ _ _ h => h) (Or.inl ⟨by rfl, ?_⟩) hHeld ?_
      rotate_left
      · (intro w' hSw; (try dsimp only at hSw); go_split_ands; go_simp; try with_reducible rfl)
      (try simp only [Act.put, List.setIfInBounds_toArray, List.set_cons_zero, List.set_cons_succ])
      refine upZ_take (i := 15) (oi := ⟨some 36, _, _, _, _, _⟩) (v := ?_) rfl (by kernel_rfl) (by kernel_rfl) (by kernel_rfl) (by kernel_rfl) (fun _ _ _ h => h) (Or.inl ⟨by rfl, ?_⟩) hHeld ?_
      rotate_left
      · (intro w' hSw; (try dsimp only at hSw); go_split_ands; go_simp; try with_reducible rfl)
      (try simp only [Act.put, List.setIfInBounds_toArray, List.set_cons_zero, List.set_cons_succ])
      refine upZ_take (i := 16) (oi := ⟨some 37, _, _, _, _, _⟩) (v := ?_) rfl (by kernel_rfl) (by kernel_rfl) (by kernel_rfl) (by kernel_rfl) (fun _ _ _ h => h) (Or.inl ⟨by rfl, ?_⟩) hHeld ?_
      rotate_left
      · (intro w' hSw; (try dsimp only at hSw); go_split_ands; go_simp; try with_reducible rfl)
      (try simp only [Act.put, List.setIfInBounds_toArray, List.set_cons_zero, List.set_cons_succ])
      refine upZ_take (i := 17) (oi := ⟨some 38, _, _, _, _, _⟩) (v := ?_) rfl (by kernel_rfl) (by kernel_rfl) (by kernel_rfl) (by kernel_rfl) (fun _ _ _ h => h) (Or.inl ⟨by rfl, ?_⟩) hHeld ?_
      rotate_left
      · (intro w' hSw; (try dsimp only at hSw); go_split_ands; go_simp; try with_reducible rfl)
      (try simp only [Act.put, List.setIfInBounds_toArray, List.set_cons_zero, List.set_cons_succ])
      refine upZ_take (i := 18) (oi := ⟨some 39, _, _, _, _, _⟩) (v := ?_) rfl (by kernel_rfl) (by kernel_rfl) (by kernel_rfl) (by kernel_rfl) (fun _ _ _ h => h) (Or.inl ⟨by rfl, ?_⟩) hHeld ?_
      rotate_left
      · (intro w' hSw; (try dsimp only at hSw); go_split_ands; go_simp; try with_reducible rfl)
      (try simp only [Act.put, List.setIfInBounds_toArray, List.set_cons_zero, List.set_cons_succ])
      refine upZ_take (i := 19) (oi := ⟨some 40, _, _, _, _, _⟩) (v := ?_) rfl (by kernel_rfl) (by kernel_rfl) (by kernel_rfl) (by kernel_rfl) (fun _ _ _ h => h) (Or.inl ⟨by rfl, ?_⟩) hHeld ?_
      rotate_left
      · (intro w' hSw; (try dsimp only at hSw); go_split_ands; go_simp; try with_reducible rfl)
      (try simp only [Act.put, List.setIfInBounds_toArray, List.set_cons_zero, List.set_cons_succ])
      refine upZ_take (i := 20) (oi := ⟨some 41, _, _, _, _, _⟩) (v := ?_) rfl (by kernel_rfl) (by kernel_rfl) (by kernel_rfl) (by kernel_rfl) (fun _ _ _ h => h) (Or.inl ⟨by rfl, ?_⟩) hHeld ?_
      rotate_left
      · (intro w' hSw; (try dsimp only at hSw); go_split_ands; go_simp; try with_reducible rfl)
      (try simp only [Act.put, List.setIfInBounds_toArray, List.set_cons_zero, List.set_cons_succ])
      refine upZ_only (i := 21) (o := ⟨some 42, _, _, _, _, _⟩) (by kernel_rfl) rfl rfl (fun K hK => ?_)
      go_simp
      refine hK.out _ _ (HKP.out _ HBA.out) (fun hHeld => ?_)
      clear hK K
      (try simp only [Act.put, List.setIfInBounds_toArray, List.set_cons_zero, List.set_cons_succ])
      refine upZ_only (i := 22) (o := ⟨some 43, _, _, _, _, _⟩) (by kernel_rfl) rfl rfl (fun K hK => ?_)
      refine step_append_lies _ rfl _ _ _ (by rfl) (g2 + 1) 58 i0 _ 3 40 Try.underlying22 hi hz0 hz1 hz2 rfl (by omega) (.slice A j c) j (ogsC l) (by rfl) HO2.out ⟨wr.heap.size, 0, none⟩ 1 1 [.int .i64 xc, .int .i64 xt, .slice xa xn xk] (by rfl) (by rfl) (World.news_of_block (cs := #[.int .i64 xc, .int .i64 xt, .slice xa xn xk]) (t := 58) (fr := (0, 0)) HLIT.out) (by simp [Value.oneCell']) (by omega) HB1.out HB2.out HB3.out (wr.heap.size + 1) HB4.out ?_
      intro gg cap w4 hown4 hgrow hat hlt4
      have HHG := hide hgrow
      have HHO := hide hown4
      have HAT := hide hat
      clear hown4 hgrow hat hlt4
      refine hK.out _ _ (HKG.out _ HHG.out) (fun hHeld => ?_)
      clear hK K
      (try simp only [Act.put, List.setIfInBounds_toArray, List.set_cons_zero, List.set_cons_succ])
      refine upZ_take (i := 23) (oi := ⟨some 44, _, _, _, _, _⟩) (v := ?_) rfl (by kernel_rfl) (by kernel_rfl) (by kernel_rfl) (by kernel_rfl) (fun _ _ _ h => h) (Or.inl ⟨by rfl, ?_⟩) hHeld ?_
      rotate_left
      · (intro w' hSw; (try dsimp only at hSw); go_split_ands; go_simp; try with_reducible rfl)
      (try simp only [Act.put, List.setIfInBounds_toArray, List.set_cons_zero, List.set_cons_succ])
      refine upZ_last (o := ⟨none, _, _, _, _, _⟩) (by kernel_rfl) rfl (by kernel_rfl) (fun K hK => ?_)
      have c4 := hHeld.2.2.2.2
      have s4 : w4.heap[g2]? = wr.heap[g2]? := (HHG.out.block g2 (Nat.lt_of_lt_of_le HG2.out HBA.out.size) (fun e => HA.out e.symm)).trans (HBA.out.block g2 HG2.out)
      have f4 := frozen_of_row w4 g2 3 _ _ (s4.trans HBX.out)
      clear hHeld s4
      go_simp
      refine hK.out _ _ ?_
      clear hK K
      (try simp only [Act.put, List.setIfInBounds_toArray, List.set_cons_zero, List.set_cons_succ])
      have hG2 : wr.grownBy w4 (Value.slice A l.length c).ownBlock := by
        rw [HLL.out]
        exact ⟨HHG.out.os.trans HBA.out.os, HHG.out.tape.trans HBA.out.tape, HHG.out.output.trans HBA.out.output, Nat.le_trans HBA.out.size HHG.out.size, fun k hk hne => (HHG.out.block k (Nat.lt_of_lt_of_le hk HBA.out.size) hne).trans (HBA.out.block k hk)⟩
      have hI2 : Hid (TlI w (w4.setCell ⟨g2, 3, none⟩ (.slice (some ⟨gg, 0, none⟩) (j + 1) cap)) g2 g1 25 58 T (j + 1) (some ⟨gg, 0, none⟩) cap I0 k0 (l ++ [⟨xc, xt, xa, xk, xd⟩])) := hide (by
        have := hI.out.snoc (x := ⟨xc, xt, xa, xk, xd⟩) (gg := gg) (cap := cap) hG2 (by rw [HLL.out]; unfold ogC; rw [← HXN.out]; exact HHO.out) (by
          rcases HAT.out with h1 | h1
          · exact .inl (by rw [HLL.out]; exact h1)
          · exact .inr (by omega)) ⟨(HOB.out.1.below hI.out.bel).more hI.out.bel.size, HOB.out.2⟩ (fun hp a e => ⟨by have h9 := HOB.out.1.blk hp e; have h8 := Z0.out; have h7 := hI.out.lo; constructor <;> omega, fun e2 => by
            have h1 := HOB.out.1.blk hp e
            have h2 := (World.ownsRow.lt hI.out.og.row _ e2).1
            have := hI.out.lo; omega⟩) (by rw [← HLEN.out]; exact hlt) HSAY.out
        rwa [HLL.out] at this)
      have hQ2 : Hid ((w4.setCell ⟨g2, 3, none⟩ (.slice (some ⟨gg, 0, none⟩) (j + 1) cap)).heap[w.heap.size]? = some (.cells X 28 (0, 0)) ∧ (w4.setCell ⟨g2, 3, none⟩ (.slice (some ⟨gg, 0, none⟩) (j + 1) cap)).heap[g1]? = some (.cells (tunA false 0 0 none 0 0 none 0 0) 25 (0, 0))) := hide ⟨(hI.out.snoc_old hG2 (by have := Z0.out; have := Z2.out; omega) _).trans hQ.out.1, (hI.out.snoc_old hG2 (by have := Z0.out; have := Z2.out; omega) _).trans hQ.out.2⟩
      clear hG2 HHO HHG HAT HKG HKP c4 f4
      go_wp2
      go_roundw
      (case rel => exact ⟨j + 1, some ⟨gg, 0, none⟩, cap, _, by omega, by go_num, hI2, hQ2⟩)
      (case measure => simp [intOf]; omega)
    · obtain rfl : j = n := by omega
      have hI3 := hI.out
      rw [HLEN.out] at hI3
      have rz := hQ.out.2
      have hbx := hI.out.box
      rw [hll] at hbx
      obtain ⟨Y, hY⟩ : ∃ Y, Y = tunA T.o T.p T.v A j c I0 T.D.length k0 := ⟨_, rfl⟩
      rw [← hY] at hbx
      have ys : Y.size = 5 := by rw [hY]; rfl
      have yx : Y.extract 0 5 = Y := by rw [hY]; rfl
      have yo : allOne Y = true := by rw [hY]; exact tunA_one _ _ _ _ _ _ _ _ _
      obtain ⟨Z, hZ⟩ : ∃ Z, Z = tunA false 0 0 none 0 0 none 0 0 := ⟨_, rfl⟩
      rw [← hZ] at rz
      have zs : Z.size = 5 := by rw [hZ]; rfl
      have HY := hide hY
      have HI3 := hide hI3
      have HLL := hide hll
      clear hI hI3 hY hZ hlt d0 d1 d2 d4 hll
      go_wp2
      refine bodyPost_ret (results_cell_row (fn := Try.f10) Try.results10 _ _ g1 25 Y (0, 0) _ rfl (setRow_heap wr _ _ _ _ _ rz) Try.underlying25 rfl (by rw [ys]; exact info_rtunG)) rfl ?_
      have h4 := (HI3.out.box2 (grown_rowT wr g1 Y) (by have := Z0.out; omega) (by have := Z0.out; have := Z2.out; omega))
      have h5 := h4.all
      rw [HLL.out, ← HY.out] at h5
      exact ⟨Y, rfl, h5, h4.bel⟩
end Go.Proofs.Ytdmlgogjipcggaa
