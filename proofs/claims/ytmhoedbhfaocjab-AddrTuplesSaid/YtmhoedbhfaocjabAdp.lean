/-
  The walks of the document's own Of, and of Bytes, the program's and the document's own.
-/
import Derived.Test.YtmhoedbhfaocjabAdo
namespace Go.Proofs.Ytmhoedbhfaocjab
open Go.RowKit
attribute [local go_sem ↓] exec_span exec_put exec_build heap_alloc_new heap_old
attribute [local go_sem] spanQ_ptr spanC_some heap_of_drew rs_arr rs_ad putAt_ptr putOk_ptr oldOk_some built_none World.setRow_alloc_new
set_option maxRecDepth 100000
set_option linter.unusedVariables false

theorem padL_step {l : List UInt8} {j : Nat} (hj : j < l.length) (hl : l.length ≤ 16) : (padL (l.take j)).set j l[j] = padL (l.take (j + 1)) := by
  unfold padL
  rw [List.length_take, List.length_take, Nat.min_eq_left (by omega), Nat.min_eq_left (by omega)]
  apply List.ext_getElem
  · simp; omega
  · intro k h1 h2
    rw [List.getElem_set]
    split
    · next e =>
      subst e
      rw [List.getElem_append_left (by simp; omega)]
      simp
    · next e =>
      rcases Nat.lt_or_ge k j with hk | hk
      · rw [List.getElem_append_left (by simp; omega), List.getElem_append_left (by simp; omega)]
        simp
      · rw [List.getElem_append_right (by simp; omega), List.getElem_append_right (by simp; omega)]
        simp


set_option maxHeartbeats 4000000 in
theorem refof_4 (w : World) (A : Option Addr) (c : Nat) (l : List UInt8) (B : Nat) (hl : l.length = 4) (hb : Byt w B A l) (hB : B ≤ w.heap.size) :
    Calls Try.prog 15 #[.slice A 4 c] w fun e w' => (∃ Y, e = .returned (.tuple #[.agg Y, .int .i64 0]) ∧ AdV Y false (padL l)) ∧ Below w.heap.size w w' := by
  have hl16 : l.length ≤ 16 := by omega
  go_enter Try.func15, Try.ntmps15
  have hzs := adZ_size
  have hKs := (adk_ad false).size
  have hKo : allOne (adL false (List.replicate 16 0)).toArray = true := (adk_ad false).one
  have hbk := built_kind false
  obtain ⟨K0, hK0⟩ : ∃ K0, K0 = (adL false (List.replicate 16 0)).toArray := ⟨_, rfl⟩
  rw [← hK0] at hKs hKo hbk
  have HK0 := hide hK0
  obtain ⟨W, hW, h1, h2, hz, hbw⟩ := two_blocks w (.cells adZ 25) (.cells adZ 25)
  rw [adZ_ok] at hW
  have HB := hide hbw
  have HZ := hide hz
  have H1 := hide h1
  have H2 := hide h2
  have hcell : ∀ j (hj : j < l.length), ∃ b off, A = some ⟨b, off, none⟩ ∧ b < w.heap.size ∧ ∀ i (h : i < l.length), w.cell? ⟨b, off + i, none⟩ = some (.int .u8 (l[i].toNat : Int)) := fun j hj => by
    obtain ⟨b, off, e, hbB, hc⟩ := hb (by omega)
    exact ⟨b, off, e, by omega, hc⟩
  obtain ⟨b, off, rfl, hbw2, hcl⟩ := hcell 0 (by omega)
  have HCL := hide hcl
  have hg2 : (W.setRow (w.heap.size + 1) K0).heap[w.heap.size + 1]? = some (.cells (adL false (padL (l.take 0))).toArray 25 (0, 0)) := by
    have := setRow_heap W (w.heap.size + 1) _ K0 _ _ h2
    rw [this, hK0]; rfl
  have HG2 := hide hg2
  clear hz hbw hK0 hcell hcl hg2 hb hB
  go_wp2
  clear h1 h2 hW
  go_loopw [5] (fun i wr => ∃ j : Nat, j ≤ 4 ∧ i = .int .i64 (j : Int) ∧ Hid (wr.heap[w.heap.size + 1]? = some (.cells (adL false (padL (l.take j))).toArray 25 (0, 0))) ∧ Hid (Below (w.heap.size + 1) W wr)) (fun i _ => 4 - (intOf i).toNat)
  case atStart => exact ⟨0, by omega, rfl, hide HG2.out, hide (below_setRow (Below.refl _ W) (Nat.le_refl _) K0)⟩
  case round =>
    obtain ⟨j, hj, rfl, hcur, hbr⟩ := hrel
    by_cases hlt : j < 4
    · have hjl : j < l.length := by omega
      obtain ⟨x, hx⟩ : ∃ x, x = l[j] := ⟨_, rfl⟩
      have hc0 : wr.cell? ⟨b, off + j, none⟩ = some (.int .u8 (x.toNat : Int)) := by
        rw [hbr.out.cell (by show b < _; omega), HB.out.cell (by exact hbw2), hx]; exact HCL.out j hjl
      have hpad : (padL (l.take j)).length = 16 := length_padL (by rw [List.length_take]; omega)
      have hc2 : wr.cell? ⟨w.heap.size + 1, 1 + j, none⟩ = some (.int .u8 (((padL (l.take j))[j]'(by rw [hpad]; omega)).toNat : Int)) := by
        rw [cell_of_row wr _ _ _ _ _ hcur.out, (AdV.mk' (v := false) hpad).at j (by rw [hpad]; omega)]
      obtain ⟨y, hy⟩ : ∃ y, y = (padL (l.take j))[j]'(by rw [hpad]; omega) := ⟨_, rfl⟩
      rw [← hy] at hc2
      have hf2 : wr.frozen? ⟨w.heap.size + 1, 1 + j, none⟩ = false := frozen_of_row wr _ _ _ _ hcur.out
      have hj0 : (0 : Int) ≤ (j : Int) := by omega
      have hj1 : (j : Int) < 16 := by omega
      have hj2 : (j : Int) < 4 := by omega
      have HX := hide hx
      have HP := hide hpad
      have hnew := heap_setCell_same wr (w.heap.size + 1) (1 + j) _ _ (.int .u8 (x.toNat : Int)) hcur.out
      rw [AdV.set hpad, HX.out, padL_step hjl hl16, ← HX.out] at hnew
      have HNEW := hide hnew
      have HBN := hide (hbr.out.setCell (p := ⟨w.heap.size + 1, 1 + j, none⟩) (Nat.le_refl _) (.int .u8 (x.toNat : Int)))
      have hxb := x.toNat_lt
      clear hx hpad hy hnew
      go_wp2
      go_roundw
      case rel => exact ⟨j + 1, by omega, by go_num, HNEW.out, HBN.out⟩
      case measure => simp [intOf]; omega
    · obtain rfl : j = 4 := by omega
      have hcu := hcur.out
      rw [List.take_of_length_le (by omega)] at hcu
      have hY : AdV (adL false (padL l)).toArray false (padL l) := AdV.mk' (length_padL hl16)
      obtain ⟨Y, hYY⟩ : ∃ Y, Y = (adL false (padL l)).toArray := ⟨_, rfl⟩
      rw [← hYY] at hY hcu
      have hYs := hY.size
      have hYr := hY.x0
      have hYo : allOne Y = true := hY.one
      have h1r := row_kept hbr.out (by omega) H1.out
      clear hYY hcur
      go_wp2
      refine bodyPost_ret (results_cell_tmp (fn := Try.f15) Try.results15 _ _ w.heap.size 25 Y (0, 0) _ rfl (setRow_heap wr _ _ _ _ _ h1r) Try.underlying25 rfl (by rw [hYs]; exact info_ad)) rfl ⟨⟨Y, rfl, hY⟩, below_setRow (HB.out.trans (hbr.out.mono (by omega))) (Nat.le_refl _) _⟩

set_option maxHeartbeats 4000000 in
theorem refof_16 (w : World) (A : Option Addr) (c : Nat) (l : List UInt8) (B : Nat) (hl : l.length = 16) (hb : Byt w B A l) (hB : B ≤ w.heap.size) :
    Calls Try.prog 15 #[.slice A 16 c] w fun e w' => (∃ Y, e = .returned (.tuple #[.agg Y, .int .i64 0]) ∧ AdV Y true (padL l)) ∧ Below w.heap.size w w' := by
  have hl16 : l.length ≤ 16 := by omega
  go_enter Try.func15, Try.ntmps15
  have hzs := adZ_size
  have hKs := (adk_ad true).size
  have hKo : allOne (adL true (List.replicate 16 0)).toArray = true := (adk_ad true).one
  have hbk := built_kind true
  obtain ⟨K0, hK0⟩ : ∃ K0, K0 = (adL true (List.replicate 16 0)).toArray := ⟨_, rfl⟩
  rw [← hK0] at hKs hKo hbk
  have HK0 := hide hK0
  obtain ⟨W, hW, h1, h2, hz, hbw⟩ := two_blocks w (.cells adZ 25) (.cells adZ 25)
  rw [adZ_ok] at hW
  have HB := hide hbw
  have HZ := hide hz
  have H1 := hide h1
  have H2 := hide h2
  have hcell : ∀ j (hj : j < l.length), ∃ b off, A = some ⟨b, off, none⟩ ∧ b < w.heap.size ∧ ∀ i (h : i < l.length), w.cell? ⟨b, off + i, none⟩ = some (.int .u8 (l[i].toNat : Int)) := fun j hj => by
    obtain ⟨b, off, e, hbB, hc⟩ := hb (by omega)
    exact ⟨b, off, e, by omega, hc⟩
  obtain ⟨b, off, rfl, hbw2, hcl⟩ := hcell 0 (by omega)
  have HCL := hide hcl
  have hg2 : (W.setRow (w.heap.size + 1) K0).heap[w.heap.size + 1]? = some (.cells (adL true (padL (l.take 0))).toArray 25 (0, 0)) := by
    have := setRow_heap W (w.heap.size + 1) _ K0 _ _ h2
    rw [this, hK0]; rfl
  have HG2 := hide hg2
  clear hz hbw hK0 hcell hcl hg2 hb hB
  go_wp2
  clear h1 h2 hW
  go_loopw [5] (fun i wr => ∃ j : Nat, j ≤ 16 ∧ i = .int .i64 (j : Int) ∧ Hid (wr.heap[w.heap.size + 1]? = some (.cells (adL true (padL (l.take j))).toArray 25 (0, 0))) ∧ Hid (Below (w.heap.size + 1) W wr)) (fun i _ => 16 - (intOf i).toNat)
  case atStart => exact ⟨0, by omega, rfl, hide HG2.out, hide (below_setRow (Below.refl _ W) (Nat.le_refl _) K0)⟩
  case round =>
    obtain ⟨j, hj, rfl, hcur, hbr⟩ := hrel
    by_cases hlt : j < 16
    · have hjl : j < l.length := by omega
      obtain ⟨x, hx⟩ : ∃ x, x = l[j] := ⟨_, rfl⟩
      have hc0 : wr.cell? ⟨b, off + j, none⟩ = some (.int .u8 (x.toNat : Int)) := by
        rw [hbr.out.cell (by show b < _; omega), HB.out.cell (by exact hbw2), hx]; exact HCL.out j hjl
      have hpad : (padL (l.take j)).length = 16 := length_padL (by rw [List.length_take]; omega)
      have hc2 : wr.cell? ⟨w.heap.size + 1, 1 + j, none⟩ = some (.int .u8 (((padL (l.take j))[j]'(by rw [hpad]; omega)).toNat : Int)) := by
        rw [cell_of_row wr _ _ _ _ _ hcur.out, (AdV.mk' (v := true) hpad).at j (by rw [hpad]; omega)]
      obtain ⟨y, hy⟩ : ∃ y, y = (padL (l.take j))[j]'(by rw [hpad]; omega) := ⟨_, rfl⟩
      rw [← hy] at hc2
      have hf2 : wr.frozen? ⟨w.heap.size + 1, 1 + j, none⟩ = false := frozen_of_row wr _ _ _ _ hcur.out
      have hj0 : (0 : Int) ≤ (j : Int) := by omega
      have hj1 : (j : Int) < 16 := by omega
      have hj2 : (j : Int) < 16 := by omega
      have HX := hide hx
      have HP := hide hpad
      have hnew := heap_setCell_same wr (w.heap.size + 1) (1 + j) _ _ (.int .u8 (x.toNat : Int)) hcur.out
      rw [AdV.set hpad, HX.out, padL_step hjl hl16, ← HX.out] at hnew
      have HNEW := hide hnew
      have HBN := hide (hbr.out.setCell (p := ⟨w.heap.size + 1, 1 + j, none⟩) (Nat.le_refl _) (.int .u8 (x.toNat : Int)))
      have hxb := x.toNat_lt
      clear hx hpad hy hnew
      go_wp2
      go_roundw
      case rel => exact ⟨j + 1, by omega, by go_num, HNEW.out, HBN.out⟩
      case measure => simp [intOf]; omega
    · obtain rfl : j = 16 := by omega
      have hcu := hcur.out
      rw [List.take_of_length_le (by omega)] at hcu
      have hY : AdV (adL true (padL l)).toArray true (padL l) := AdV.mk' (length_padL hl16)
      obtain ⟨Y, hYY⟩ : ∃ Y, Y = (adL true (padL l)).toArray := ⟨_, rfl⟩
      rw [← hYY] at hY hcu
      have hYs := hY.size
      have hYr := hY.x0
      have hYo : allOne Y = true := hY.one
      have h1r := row_kept hbr.out (by omega) H1.out
      clear hYY hcur
      go_wp2
      refine bodyPost_ret (results_cell_tmp (fn := Try.f15) Try.results15 _ _ w.heap.size 25 Y (0, 0) _ rfl (setRow_heap wr _ _ _ _ _ h1r) Try.underlying25 rfl (by rw [hYs]; exact info_ad)) rfl ⟨⟨Y, rfl, hY⟩, below_setRow (HB.out.trans (hbr.out.mono (by omega))) (Nat.le_refl _) _⟩

set_option maxHeartbeats 1000000 in
theorem refof_any (w : World) (A : Option Addr) (c : Nat) (l : List UInt8) (B : Nat) (hl : l.length ≤ 140737488355328) (hb : Byt w B A l) (hB : B ≤ w.heap.size) :
    Calls Try.prog 15 #[.slice A l.length c] w fun e w' => (∃ Y, e = .returned (.tuple #[.agg Y, .int .i64 (ofE l)]) ∧ AdV Y (ofV l) (ofB l)) ∧ Below w.heap.size w w' := by
  by_cases h4 : l.length = 4
  · rw [show ofE l = 0 by unfold ofE; rw [if_pos (.inl h4)], show ofV l = false by unfold ofV; rw [h4]; rfl, show ofB l = padL l by unfold ofB; rw [if_pos (.inl h4)], h4]
    exact refof_4 w A c l B h4 hb hB
  · by_cases h16 : l.length = 16
    · rw [show ofE l = 0 by unfold ofE; rw [if_pos (.inr h16)], show ofV l = true by unfold ofV; rw [h16]; rfl, show ofB l = padL l by unfold ofB; rw [if_pos (.inr h16)], h16]
      exact refof_16 w A c l B h16 hb hB
    · go_enter Try.func15, Try.ntmps15
      obtain ⟨W, hW, h1, hz, hbw⟩ := one_block w (.cells adZ 25)
      rw [adZ_ok] at hW
      have hzs := adZ_size
      have hzo : allOne adZ = true := adZ_ad.one
      have HB := hide hbw
      have HZ := hide hz
      have H1 := hide h1
      clear hz hbw
      have hE := hide (show ofE l = 3 by unfold ofE; rw [if_neg (by omega)])
      have hV := hide (show ofV l = false by unfold ofV; exact beq_false_of_ne h16)
      have hBB := hide (show ofB l = List.replicate 16 0 by unfold ofB; rw [if_neg (by omega)])
      have h4i : ((l.length : Int) != 4) = true := by simp; omega
      have h16i : ((l.length : Int) != 16) = true := by simp; omega
      go_wp2
      refine bodyPost_ret (results_cell_tmp (fn := Try.f15) Try.results15 _ _ w.heap.size 25 adZ (0, 0) _ rfl (setRow_heap W _ _ _ _ _ H1.out) Try.underlying25 rfl info_ad) rfl ⟨⟨adZ, ?_, ?_⟩, below_setRow HB.out (Nat.le_refl _) _⟩
      · rw [hE.out]; rfl
      · rw [hV.out, hBB.out]; exact adZ_ad
end Go.Proofs.Ytmhoedbhfaocjab
