/-
  The walk of given.
-/
import Derived.Test.YtmbddengmheeeaaLfw
import Derived.Deep.RegionLaw
import Derived.Deep.AppendLies
namespace Go.Proofs.Ytmbddengmheeeaa
open Go.RowKit
set_option maxRecDepth 100000
set_option linter.unusedVariables false
set_option linter.unusedSimpArgs false
attribute [local go_sem ↓] exec_span exec_put exec_build heap_alloc_new heap_old
attribute [local go_sem] spanQ_ptr spanC_some heap_of_drew heap_of_drewN rs_ad rs_spec rs_rec rs_vote putAt_ptr putOk_ptr oldOk_some store_fl World.setRow_alloc_new

set_option maxHeartbeats 8000000 in
theorem givenK_any (w : World) (B : Nat) (X : Array Value) (k : Kn) (va : Option Addr) (vc : Nat) (h : KnV w B X k va vc) (hB : B ≤ w.heap.size) (hl : k.vs.length ≤ 8796093022208) :
    Calls Try.prog 10 #[.agg X] w (fun e w' => ∃ X', e = .returned (.agg X') ∧ RecP w k X' w') := by
  obtain ⟨i0, hi, hz0, hz1, hz2⟩ := info_parts info_vote
  have hxs := h.rc.size
  have hxx := h.rc.x0
  have hxa := rc_addr h.rc
  have hg0 := built_g0 k.g k.l k.dn
  have hgs := built_gsT k.sp h.rc.la
  have V0 : RcV (rcL ⟨k.g, k.l, zSp, none, 0, 0, k.dn⟩).toArray ⟨k.g, k.l, zSp, none, 0, 0, k.dn⟩ := ⟨rfl, by simp [zSp], by show 0 < 2 ^ 64; decide⟩
  have y0s := V0.size
  have y0o := V0.one
  have HH := hide h
  clear V0 h
  simp only [Kn.rc] at hxa
  generalize hXA : (adL k.sp.av k.sp.ab).toArray = XA at hxa hgs
  have xss : (spL k.sp).toArray.size = 20 := by rw [List.size_toArray, len_spL (show k.sp.ab.length = 16 from HH.out.rc.la)]
  generalize hXS : (spL k.sp).toArray = XS at hgs xss
  generalize hY0 : (rcL ⟨k.g, k.l, zSp, none, 0, 0, k.dn⟩).toArray = Y0 at hg0 y0s y0o
  have H3 := hide (And.intro hXA (And.intro hXS hY0))
  clear hXA hXS hY0
  go_enter Try.func10, Try.ntmps10
  go_upto_region 1 with (fail)
  change Code.wp _ _ _ _ ((w.alloc (.cells X _)).alloc (.cells (rcL zRcd).toArray 34))
  obtain ⟨w0, hw0, r0, z0, b0⟩ := alloc_nam w (.cells X 30)
  rw [hw0]
  obtain ⟨w1, hw1, r1, z1, b1⟩ := alloc_nam w0 (.cells (rcL zRcd).toArray 34)
  rw [hw1]
  have r0' := (b1.block w.heap.size (by omega)).trans r0
  obtain ⟨c0, c1, c22, c23⟩ := HH.out.rc.cells r0'
  obtain ⟨c2, c3, c21⟩ := rc_cells5 HH.out.rc r0'
  simp only [Kn.rc] at c0 c1 c2 c3 c21 c22 c23
  have HB1 := hide (b0.trans (b1.mono (by omega)))
  rw [z0] at r1
  obtain ⟨g1, hg1⟩ : ∃ g, w.heap.size + 1 = g := ⟨_, rfl⟩
  rw [hg1] at r1 ⊢
  have Z0 := hide (And.intro z0 (And.intro z1 hg1))
  clear hw0 hw1 z0 z1 b0 b1 hg1 r0
  go_upto_region 2 with (fail)
  obtain ⟨w2, hw2, r2, z2, b2⟩ := alloc_nam w1 (.cells Y0 34)
  rw [hw2]
  have q0 := (b2.block w.heap.size (by have := Z0.out; omega)).trans r0'
  have q1 := (b2.block g1 (by have := Z0.out; omega)).trans r1
  have hc2 := b2.cell (show (⟨w.heap.size, 2, none⟩ : Addr).block < w1.heap.size by show w.heap.size < _; have := Z0.out; omega) |>.trans c2
  have hc3 := b2.cell (show (⟨w.heap.size, 3, none⟩ : Addr).block < w1.heap.size by show w.heap.size < _; have := Z0.out; omega) |>.trans c3
  have hc21 := b2.cell (show (⟨w.heap.size, 21, none⟩ : Addr).block < w1.heap.size by show w.heap.size < _; have := Z0.out; omega) |>.trans c21
  have HB2 := hide (HB1.out.trans (b2.mono (by have := Z0.out; omega)))
  obtain ⟨g2, hg2⟩ : ∃ g, w1.heap.size = g := ⟨_, rfl⟩
  rw [hg2] at r2 ⊢
  have Z2 := hide (And.intro z2 hg2)
  have hst : (storeCells ⟨g2, 2, none⟩ XS.toList).run Try.prog w2 = .ok () (w2.setRow g2 (rcL ⟨k.g, k.l, k.sp, none, 0, 0, k.dn⟩).toArray) := by
    have := run_storeCells_at (P := Try.prog) g2 2 34 (spL k.sp) 0 _ w2 r2 (by rw [y0s, len_spL (show k.sp.ab.length = 16 from HH.out.rc.la)]; decide) (spL_one _)
    rw [← H3.out.2.1, ← splice_sp k.g k.l k.dn k.sp HH.out.rc.la]
    rw [← H3.out.2.2] at this
    generalize rcL ⟨k.g, k.l, zSp, none, 0, 0, k.dn⟩ = Q at this ⊢
    simpa [splice] using this
  have q2 := setRow_heap w2 g2 _ (rcL ⟨k.g, k.l, k.sp, none, 0, 0, k.dn⟩).toArray _ _ r2
  have u0 := (setRow_other w2 g2 w.heap.size (rcL ⟨k.g, k.l, k.sp, none, 0, 0, k.dn⟩).toArray (by have := Z0.out; omega)).trans q0
  have u1 := (setRow_other w2 g2 g1 (rcL ⟨k.g, k.l, k.sp, none, 0, 0, k.dn⟩).toArray (by have := Z0.out; omega)).trans q1
  have HB3 := hide (below_setRow HB2.out (show w.heap.size ≤ g2 by have := Z0.out; omega) (rcL ⟨k.g, k.l, k.sp, none, 0, 0, k.dn⟩).toArray)
  have z3 : (w2.setRow g2 (rcL ⟨k.g, k.l, k.sp, none, 0, 0, k.dn⟩).toArray).heap.size = w2.heap.size := setRow_size _ _ _
  obtain ⟨w3, hw3⟩ : ∃ w3, w2.setRow g2 (rcL ⟨k.g, k.l, k.sp, none, 0, 0, k.dn⟩).toArray = w3 := ⟨_, rfl⟩
  rw [hw3] at hst q2 u0 u1 HB3 z3
  have Z3 := hide z3
  clear hw2 hw3 z2 hg2 b2 r0' r1 c0 c1 c2 c3 c21 c22 c23 r2 z3
  go_wp2
  have hst0 : GvI w w3 w.heap.size g1 g2 X (rcL zRcd).toArray k 0 none 0 := by
    refine ⟨u0, u1, ⟨_, ⟨rfl, HH.out.rc.la, HH.out.rc.wf⟩, q2⟩, ⟨by simp [voC, kTake], .inl ⟨by simp [kTake], by simp [kTake]⟩⟩, HB3.out, ?_⟩
    have := Z3.out; have := Z2.out; omega
  have HS0 := hide hst0
  clear q0 q1 q2 u0 u1 hc2 hc3 hc21 hst hst0 hg0 hgs
  have HVO := hide HH.out.vo
  have hcp := HH.out.cp
  obtain ⟨n, hn⟩ : ∃ n, n = k.vs.length := ⟨_, rfl⟩
  rw [← hn] at hl hcp
  have HN := hide hn
  clear hn
  go_loopw [4] (fun i wr => ∃ (j : Nat) (A : Option Addr) (c : Nat), j ≤ n ∧ i = .int .i64 (j : Int) ∧ Hid (GvI w wr w.heap.size g1 g2 X (rcL zRcd).toArray k j A c)) (fun i _ => n - (intOf i).toNat)
  case atStart => exact ⟨0, none, 0, by omega, rfl, HS0⟩
  case round =>
    obtain ⟨j, A, c, hj, rfl, hI⟩ := hrel
    have rx := hI.out.rx
    obtain ⟨-, -, x22, -⟩ := HH.out.rc.cells rx
    simp only [Kn.rc] at x22
    rw [← HN.out] at x22
    obtain ⟨Y, hYv, ry⟩ := hI.out.ry
    by_cases hlt : j < n
    · have hkl : j < k.vs.length := by rw [← HN.out]; exact hlt
      obtain ⟨b, off, rfl, hbB, hc⟩ := HVO.out (by omega)
      obtain ⟨e1, e2⟩ := hc j hkl
      have hL : (kTake k j).vs.length = j := by show (k.vs.take j).length = j; rw [List.length_take]; omega
      have hTT : (kTake k (j + 1)).vs = (kTake k j).vs ++ [k.vs[j]] := List.take_succ_eq_append_getElem hkl
      obtain ⟨y, hy⟩ : ∃ y, y = k.vs[j] := ⟨_, rfl⟩
      rw [← hy] at e1 e2 hTT
      obtain ⟨ys, yo⟩ := y
      have hbw : b < w.heap.size := by omega
      have i1 : wr.cell? ⟨b, off + j * 2, none⟩ = some (.int .i64 ys) := (hI.out.bel.cell (show (⟨b, off + j * 2, none⟩ : Addr).block < w.heap.size from hbw)).trans e1
      have i2 : wr.cell? ⟨b, off + j * 2 + 1, none⟩ = some (.bool yo) := (hI.out.bel.cell (show (⟨b, off + j * 2 + 1, none⟩ : Addr).block < w.heap.size from hbw)).trans e2
      obtain ⟨-, -, y22, -⟩ := hYv.cells ry
      simp only [Kn.rc] at y22
      have hown := hI.out.own
      unfold OwnVo at hown
      rw [hL] at y22 hown
      have hA : (.slice A j c : Value).ownBlock ≠ some g2 := fun e => by have := (World.ownsRow.lt hown _ e).1; omega
      have y22a : ∀ o, (wr.alloc o).cell? ⟨g2, 22, none⟩ = some (.slice A j c) := fun o => (World.cell?_alloc_lt wr o ⟨g2, 22, none⟩ hI.out.size).trans y22
      have hrya : ∀ o, (wr.alloc o).heap[g2]? = some (.cells Y 34 (0, 0)) := fun o => (heap_alloc_old wr o hI.out.size).trans ry
      have HO := hide hown
      have HTT := hide hTT
      have HLL := hide hL
      have HY := hide hYv
      have HA := hide hA
      have HRY := hide hrya
      have HG2 := hide hI.out.size
      have HBA : Hid (Below wr.heap.size wr (wr.alloc (.cells #[.int .i64 ys, .bool yo] 46)).drew) := hide (below_drewN ((Below.refl _ _).alloc (Nat.le_refl _) _) 1)
      have hj1 : (j : Int) < (n : Int) := by omega
      have hj0 : (0 : Int) ≤ (j : Int) := by omega
      clear hc e1 e2 hL hTT hy hbw hYv ry hown hA hrya hkl hbB rx
      go_wp2
      go_region_law (refine step_append_lies _ (by rfl) _ _ _ (by rfl) (g2 + 1) 46 i0 _ 2 16 Try.underlying32 hi hz0 hz1 hz2 rfl (by omega) (.slice A j c) j (voC (kTake k j).vs) (by rfl) (by first | exact HO.out.alloc _ | exact (HO.out.alloc _).drew) ⟨wr.heap.size, 0, none⟩ 1 1 [.int .i64 ys, .bool yo] (by rfl) (by rfl) (World.news_of_block (cs := #[.int .i64 ys, .bool yo]) (t := 46) (fr := (0, 0)) (heap_alloc_new wr _)) (by simp [Value.oneCell']) (by omega) (by unfold maxLen; omega) (by omega) (by have := HG2.out; simp; omega) (wr.heap.size + 1) (by simp) ?_; intro gg cap w4 hown4 hgrow hat hlt4; have s4 := (hgrow.block g2 (by have := HG2.out; simp; omega) (fun e => HA.out e.symm)).trans (HRY.out _); have f4 := frozen_of_row w4 g2 22 _ _ s4; have c4 := (HY.out.cells s4).2.2.1)
      all_goals
        have hI2 := hide (hI.out.step (gg := gg) (cap := cap) (y := (ys, yo)) (Nat.le_refl _) (by have := Z0.out; omega) (by have := Z0.out; have := Z2.out; omega) HBA.out (by rw [HLL.out]; exact hgrow) HTT.out HLL.out hown4)
        clear hown4 hgrow hat hlt4 s4 f4 c4
        go_wp2
        go_roundw
        try (case rel => exact ⟨j + 1, some ⟨gg, 0, none⟩, cap, by omega, by go_num, hI2⟩)
        try (case measure => simp [intOf]; omega)
    · obtain rfl : j = n := by omega
      have hTk : kTake k j = k := by unfold kTake; rw [HN.out, List.take_length]
      have rz := hI.out.rz
      have hown := hI.out.own
      have hbel := hI.out.bel
      have hsz := hI.out.size
      rw [hTk] at hYv hown
      have ys := hYv.size
      have yx := hYv.x0
      have yo := hYv.one
      have zs : (rcL zRcd).toArray.size = 24 := by simp [rcL, spL, adL, zRcd, zSp]
      generalize (rcL zRcd).toArray = Z at rz zs
      have HY := hide hYv
      have HO := hide hown
      have HBE := hide hbel
      have HSZ := hide hsz
      clear hYv hown hbel hsz hlt hI rx
      go_wp2
      refine bodyPost_ret (results_cell_row (fn := Try.f10) Try.results10 _ _ g1 34 Y (0, 0) _ rfl (setRow_heap wr _ _ _ _ _ rz) Try.underlying34 rfl (by rw [ys]; exact info_rec)) rfl ?_
      have hg1 : g1 < g2 + 1 := by have := Z0.out; have := Z2.out; omega
      have ho4 := ownV_kept HO.out (grown_row wr g1 Y) hg1
      obtain ⟨A', c', e, q1, q2, q3⟩ := row_votes ho4
      cases e
      exact ⟨Y, rfl, A, c, ⟨HY.out, q2, by rw [← HN.out]; omega, q3, q1⟩, ownV_less ho4 (by have := Z0.out; have := Z2.out; omega), below_setRow HBE.out (by have := Z0.out; omega) _⟩
end Go.Proofs.Ytmbddengmheeeaa
