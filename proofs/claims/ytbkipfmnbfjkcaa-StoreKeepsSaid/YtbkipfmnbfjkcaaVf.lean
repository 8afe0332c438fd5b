/-
  Flows as the document says: a first packet, another packet.
-/
import Derived.Test.YtbkipfmnbfjkcaaVe
namespace Go.Proofs.Ytbkipfmnbfjkcaa
open Go.RowKit
set_option maxRecDepth 100000
set_option linter.unusedVariables false
set_option linter.unusedSimpArgs false
attribute [local go_sem ↓] exec_span exec_put exec_build heap_alloc_new heap_old
attribute [local go_sem] spanQ_ptr spanC_some heap_of_drew heap_of_drewN putAt_ptr putOk_ptr oldOk_some World.setRow_alloc_new rs_Flow rs_RFlow built_flow0 built_rflow0 built_flow2 built_flow3 built_rflow3
theorem has4_any (w : World) (fl : Int) (h0 : 0 ≤ fl) (h1 : fl ≤ 255) : Calls Try.prog 43 #[.int .i64 fl, .int .i64 4] w fun e w' => e = .returned (.bool (hasB fl 4)) ∧ w = w' := by
  go_enter Try.func43, Try.ntmps43
  go_wp2
  all_goals go_ret
  all_goals refine ⟨ret_bool ?_, rfl⟩
  all_goals
    have e1 : wrap64 (Int.tdiv fl 4) = fl / 4 := by rw [Int.tdiv_eq_ediv_of_nonneg h0, wr64_inV _ (by omega) (by omega)]
    have e2 : wrap64 (Int.tmod (fl / 4) 2) = fl / 4 % 2 := by rw [Int.tmod_eq_emod_of_nonneg (by omega), wr64_inV _ (by omega) (by omega)]
    first | rfl | simp [e1, e2, hasB]
theorem has1_any (w : World) (fl : Int) (h0 : 0 ≤ fl) (h1 : fl ≤ 255) : Calls Try.prog 43 #[.int .i64 fl, .int .i64 1] w fun e w' => e = .returned (.bool (hasB fl 1)) ∧ w = w' := by
  go_enter Try.func43, Try.ntmps43
  go_wp2
  all_goals go_ret
  all_goals refine ⟨ret_bool ?_, rfl⟩
  all_goals
    have e1 : wrap64 (Int.tdiv fl 1) = fl / 1 := by rw [Int.tdiv_eq_ediv_of_nonneg h0, wr64_inV _ (by omega) (by omega)]
    have e2 : wrap64 (Int.tmod (fl / 1) 2) = fl / 1 % 2 := by rw [Int.tmod_eq_emod_of_nonneg (by omega), wr64_inV _ (by omega) (by omega)]
    first | rfl | simp [e1, e2, hasB]
theorem has16_any (w : World) (fl : Int) (h0 : 0 ≤ fl) (h1 : fl ≤ 255) : Calls Try.prog 43 #[.int .i64 fl, .int .i64 16] w fun e w' => e = .returned (.bool (hasB fl 16)) ∧ w = w' := by
  go_enter Try.func43, Try.ntmps43
  go_wp2
  all_goals go_ret
  all_goals refine ⟨ret_bool ?_, rfl⟩
  all_goals
    have e1 : wrap64 (Int.tdiv fl 16) = fl / 16 := by rw [Int.tdiv_eq_ediv_of_nonneg h0, wr64_inV _ (by omega) (by omega)]
    have e2 : wrap64 (Int.tmod (fl / 16) 2) = fl / 16 % 2 := by rw [Int.tmod_eq_emod_of_nonneg (by omega), wr64_inV _ (by omega) (by omega)]
    first | rfl | simp [e1, e2, hasB]
set_option maxHeartbeats 4000000 in
theorem beginR_any (w : World) (p fl now : Int) : Calls Try.prog 13 #[.int .i64 p, .int .i64 fl, .int .i64 now] w (RetV w (flE (beginF p fl now))) := by
  obtain ⟨W, hW, r1, z1, b1⟩ := alloc_nm w (.cells #[.int .i64 0, .int .i64 0, .int .i64 0] 23)
  have HR := hide r1
  have HB := hide b1
  have KP := hide (fun (h : p = 6 ∨ p = 17) W => givenR_any W p fl now h)
  have K4 := hide (fun (h : pktB p fl now = true) (W : World) => has4_any W fl (pktB_fl h).1 (pktB_fl h).2)
  have K1 := hide (fun (h : pktB p fl now = true) (W : World) => has1_any W fl (pktB_fl h).1 (pktB_fl h).2)
  have HT : Hid (turnF 1 fl = if hasB fl 4 then 3 else if hasB fl 1 then 2 else 1) := hide (by unfold turnF turnB; simp)
  have C3 := cells3
  have X3 := ext3
  have HZ := hide z1
  clear b1 z1
  obtain ⟨b, hb⟩ : ∃ b, b = pktB p fl now := ⟨_, rfl⟩
  obtain ⟨h, hh⟩ : ∃ h, h = hasB fl 4 := ⟨_, rfl⟩
  obtain ⟨f, hf⟩ : ∃ f, f = hasB fl 1 := ⟨_, rfl⟩
  obtain ⟨S, hS⟩ : ∃ S, S = turnF 1 fl := ⟨_, rfl⟩
  unfold beginF
  rw [← hb] at KP K4 K1
  rw [← hh] at K4 HT
  rw [← hf] at K1 HT
  rw [← hS] at HT
  rw [← hb, ← hh, ← hS]
  clear hb hh hS hf
  by_cases hp : p ≠ 6 ∧ p ≠ 17
  · rw [if_pos hp]
    have e6 : (p != 6) = true := by simpa using hp.1
    have e17 : (p != 17) = true := by simpa using hp.2
    clear hp KP K4 K1
    go_enter Try.func13, Try.ntmps13
    go_wp2
    refine bodyPost_ret (results_cell_tmp (fn := Try.f13) Try.results13 _ _ w.heap.size 23 _ (0, 0) _ rfl (setRow_heap _ _ _ _ _ _ HR.out) Try.underlying23 rfl info_rflow) rfl ?_
    exact ⟨rfl, below_setRow HB.out (Nat.le_refl _) _⟩
  rw [if_neg hp]
  have hp' : p = 6 ∨ p = 17 := by omega
  have KP := hide (KP.out hp')
  clear hp
  cases b
  · rw [if_pos rfl]
    clear K4 K1
    rcases hp' with rfl | rfl
    all_goals
      go_enter Try.func13, Try.ntmps13
      go_wp2_with (first | (go_at_call 42; (with_reducible refine (KP.out _).mono ?_); rintro e w2 ⟨rfl, rfl⟩; dsimp only) | fail)
      refine bodyPost_ret (results_cell_tmp (fn := Try.f13) Try.results13 _ _ w.heap.size 23 _ (0, 0) _ rfl (setRow_heap _ _ _ _ _ _ HR.out) Try.underlying23 rfl info_rflow) rfl ?_
      exact ⟨rfl, below_setRow HB.out (Nat.le_refl _) _⟩
  have K4' := hide (K4.out rfl)
  have K1' := hide (K1.out rfl)
  rw [if_neg (by simp)]
  obtain ⟨W2, hW2, q2, z2, b2⟩ := alloc_nm W (.cells #[.int .i64 p, .int .i64 1, .int .i64 now] 23)
  have q1 : W2.heap[w.heap.size]? = some (.cells #[.int .i64 0, .int .i64 0, .int .i64 0] 23 (0, 0)) := (b2.block _ (by have := HZ.out; omega)).trans r1
  have HB2 : Hid (Below w.heap.size w W2) := hide (HB.out.trans (b2.mono (by have := HZ.out; omega)))
  have HQ1 := hide q1
  clear b2 z2
  cases h
  · rw [if_neg (by simp)]
    cases f
    · obtain rfl : S = 1 := by rw [HT.out]; rfl
      rcases hp' with rfl | rfl
      all_goals
        go_enter Try.func13, Try.ntmps13
        go_wp2_with (first | (go_at_call 42; (with_reducible refine (KP.out _).mono ?_); rintro e w2 ⟨rfl, rfl⟩; dsimp only) | (go_at_call 43; (with_reducible refine (K4'.out _).mono ?_); rintro e w2 ⟨rfl, rfl⟩; dsimp only) | (go_at_call 43; (with_reducible refine (K1'.out _).mono ?_); rintro e w2 ⟨rfl, rfl⟩; dsimp only) | fail)
        refine bodyPost_ret (results_cell_tmp (fn := Try.f13) Try.results13 _ _ w.heap.size 23 _ (0, 0) _ rfl (setRow_heap _ _ _ _ _ _ HQ1.out) Try.underlying23 rfl info_rflow) rfl ?_
        exact ⟨rfl, below_setRow HB2.out (Nat.le_refl _) _⟩
    · obtain rfl : S = 2 := by rw [HT.out]; rfl
      have c1 : W2.cell? ⟨W.heap.size, 1, none⟩ = some (.int .i64 1) := (cell_of_row W2 _ 1 _ _ (0, 0) q2).trans rfl
      have f1 : W2.frozen? ⟨W.heap.size, 1, none⟩ = false := frozen_of_row W2 _ 1 _ _ q2
      have q3 := heap_setCell_same W2 W.heap.size 1 _ _ (.int .i64 2) q2
      rw [set1] at q3
      have q4 := (heap_setCell_other W2 ⟨W.heap.size, 1, none⟩ w.heap.size (.int .i64 2) (by have := HZ.out; simp only [ne_eq]; omega)).trans q1
      obtain ⟨W3, hW3⟩ : ∃ W3, W2.setCell ⟨W.heap.size, 1, none⟩ (.int .i64 2) = W3 := ⟨_, rfl⟩
      have HB3 : Hid (Below w.heap.size w W3) := hide (by rw [← hW3]; exact below_setV HB2.out (by have := HZ.out; omega) _)
      rw [hW3] at q3 q4
      have HQ4 := hide q4
      rcases hp' with rfl | rfl
      all_goals
        go_enter Try.func13, Try.ntmps13
        go_wp2_with (first | (go_at_call 42; (with_reducible refine (KP.out _).mono ?_); rintro e w2 ⟨rfl, rfl⟩; dsimp only) | (go_at_call 43; (with_reducible refine (K4'.out _).mono ?_); rintro e w2 ⟨rfl, rfl⟩; dsimp only) | (go_at_call 43; (with_reducible refine (K1'.out _).mono ?_); rintro e w2 ⟨rfl, rfl⟩; dsimp only) | fail)
        refine bodyPost_ret (results_cell_tmp (fn := Try.f13) Try.results13 _ _ w.heap.size 23 _ (0, 0) _ rfl (setRow_heap _ _ _ _ _ _ HQ4.out) Try.underlying23 rfl info_rflow) rfl ?_
        exact ⟨rfl, below_setRow HB3.out (Nat.le_refl _) _⟩
  · rw [if_pos rfl]
    clear hW2 q1 q2
    rcases hp' with rfl | rfl
    all_goals
      go_enter Try.func13, Try.ntmps13
      go_wp2_with (first | (go_at_call 42; (with_reducible refine (KP.out _).mono ?_); rintro e w2 ⟨rfl, rfl⟩; dsimp only) | (go_at_call 43; (with_reducible refine (K4'.out _).mono ?_); rintro e w2 ⟨rfl, rfl⟩; dsimp only) | fail)
      refine bodyPost_ret (results_cell_tmp (fn := Try.f13) Try.results13 _ _ w.heap.size 23 _ (0, 0) _ rfl (setRow_heap _ _ _ _ _ _ HR.out) Try.underlying23 rfl info_rflow) rfl ?_
      exact ⟨rfl, below_setRow HB.out (Nat.le_refl _) _⟩
end Go.Proofs.Ytbkipfmnbfjkcaa
