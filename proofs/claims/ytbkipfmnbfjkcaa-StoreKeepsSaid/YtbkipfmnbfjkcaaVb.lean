/-
  Flows: can one be, when does it end, does it live; of the program's and of the document's.
-/
import Derived.Test.YtbkipfmnbfjkcaaVa
import Derived.Test.YtbkipfmnbfjkcaaQc
namespace Go.Proofs.Ytbkipfmnbfjkcaa
open Go.RowKit
set_option maxRecDepth 100000
set_option linter.unusedVariables false
set_option linter.unusedSimpArgs false
theorem rs_Flow : rowSize Try.prog 24 = some 3 := by kernel_rfl
theorem rs_RFlow : rowSize Try.prog 23 = some 3 := by kernel_rfl
attribute [local go_sem ↓] exec_span exec_put exec_build heap_alloc_new heap_old
attribute [local go_sem] spanQ_ptr spanC_some heap_of_drew heap_of_drewN putAt_ptr putOk_ptr oldOk_some rs_Flow rs_RFlow

theorem rightFlow_any (w : World) (f : Flw) : Calls Try.prog 16 #[flV f] w (RetV w (.bool (rightB f))) := by
  obtain ⟨p, s, l⟩ := f
  have HB := hide (fun o => (Below.refl w.heap.size w).alloc (Nat.le_refl _) o)
  unfold flV flA RetV
  go_enter Try.func16, Try.ntmps16
  go_wp2_with (first | (go_at_call 44; (with_reducible refine (rightTimeF_any _ _).mono ?_); rintro e w2 ⟨rfl, rfl⟩; dsimp only) | fail)
  all_goals go_ret
  all_goals refine ⟨ret_bool ?_, HB.out _⟩
  all_goals (rw [Bool.eq_iff_iff, rightB_iff]; simp only [decide_eq_true_eq, Bool.false_eq_true, false_iff]; (try simp only [beq_iff_eq, beq_eq_false_iff_ne] at *); first | omega | grind)
theorem rightFlowR_any (w : World) (f : Flw) : Calls Try.prog 17 #[flV f] w (RetV w (.bool (rightB f))) := by
  obtain ⟨p, s, l⟩ := f
  have HB := hide (fun o => (Below.refl w.heap.size w).alloc (Nat.le_refl _) o)
  unfold flV flA RetV
  go_enter Try.func17, Try.ntmps17
  go_wp2_with (first | (go_at_call 45; (with_reducible refine (clockR_any _ _).mono ?_); rintro e w2 ⟨rfl, rfl⟩; dsimp only) | fail)
  all_goals go_ret
  all_goals refine ⟨ret_bool ?_, HB.out _⟩
  all_goals (rw [Bool.eq_iff_iff, rightB_iff]; simp only [decide_eq_true_eq, Bool.false_eq_true, false_iff]; (try simp only [beq_iff_eq, beq_eq_false_iff_ne] at *); first | omega | grind)
theorem ret_i64 {a b : Int} (h : a = b) : Ending.returned (.int .i64 a) = .returned (.int .i64 b) := by rw [h]
theorem flv_x (p s l : Int) : (#[Value.int .i64 p, .int .i64 s, .int .i64 l] : Array Value).extract 0 3 = #[Value.int .i64 p, .int .i64 s, .int .i64 l] := rfl
theorem wr64_inV (x : Int) (h1 : -9223372036854775808 ≤ x) (h2 : x ≤ 9223372036854775807) : wrap64 x = x := by unfold wrap64; omega
theorem endV_small {f : Flw} (h : rightB f = true) : wrap64 (wrap64 (f.l + idleF f.p) + 1) = f.l + idleF f.p + 1 := by
  obtain ⟨_, h2⟩ := rightB_iff.1 h
  obtain ⟨h3, h4⟩ := clockB_iff.1 h2
  have h5 : idleF f.p = 60 ∨ idleF f.p = 20 := by unfold idleF; split <;> simp
  rw [wr64_inV (f.l + idleF f.p) (by omega) (by omega), wr64_inV _ (by omega) (by omega)]
theorem rightB_p {f : Flw} (h : rightB f = true) : f.p = 6 ∨ f.p = 17 := by
  obtain ⟨h1, _⟩ := rightB_iff.1 h
  omega
set_option maxHeartbeats 1000000 in
theorem endF_any (w : World) (f : Flw) : Calls Try.prog 20 #[flV f] w (RetV w (.int .i64 (endF f))) := by
  obtain ⟨W, hW, r1, z1, b1⟩ := alloc_nm w (.cells (flA f) 24)
  have K1 := hide (fun p : BW W => rightFlow_any p.w f)
  have K2 := hide (fun (h : f.p = 6 ∨ f.p = 17) (p : BW W) => idleF_any p.w f.p)
  have HE : Hid (endF f = if rightB f = true ∧ f.s ≠ 3 then f.l + idleF f.p + 1 else 0) := hide rfl
  have HS := hide (fun h => endV_small (f := f) h)
  have HP := hide (fun h => rightB_p (f := f) h)
  obtain ⟨E, hE⟩ : ∃ E, E = endF f := ⟨_, rfl⟩
  obtain ⟨rb, hrb⟩ : ∃ rb, rb = rightB f := ⟨_, rfl⟩
  obtain ⟨id, hid⟩ : ∃ id, id = idleF f.p := ⟨_, rfl⟩
  rw [← hE, ← hrb, ← hid] at HE
  rw [← hE]
  rw [← hrb, ← hid] at HS
  rw [← hrb] at K1 HP
  rw [← hid] at K2
  clear hE hrb hid
  obtain ⟨p, s, l⟩ := f
  unfold flV flA at *
  have HB := hide b1
  have k0 : W.cell? ⟨w.heap.size, 0, none⟩ = some (.int .i64 p) := (cell_of_row W _ 0 _ _ (0, 0) r1).trans rfl
  have k1 : W.cell? ⟨w.heap.size, 1, none⟩ = some (.int .i64 s) := (cell_of_row W _ 1 _ _ (0, 0) r1).trans rfl
  have k2 : W.cell? ⟨w.heap.size, 2, none⟩ = some (.int .i64 l) := (cell_of_row W _ 2 _ _ (0, 0) r1).trans rfl
  have R0 : ∀ q : BW W, q.w.cell? ⟨w.heap.size, 0, none⟩ = some (.int .i64 p) := fun q => q.cell k0
  have R1 : ∀ q : BW W, q.w.cell? ⟨w.heap.size, 1, none⟩ = some (.int .i64 s) := fun q => q.cell k1
  have R2 : ∀ q : BW W, q.w.cell? ⟨w.heap.size, 2, none⟩ = some (.int .i64 l) := fun q => q.cell k2
  have RX : ∀ q : BW W, q.w.heap[w.heap.size]? = some (.cells #[.int .i64 p, .int .i64 s, .int .i64 l] 24 (0, 0)) := fun q => q.block r1
  have HZ := hide z1
  clear b1 z1
  go_enter Try.func20, Try.ntmps20
  cases rb
  · have hR : E = 0 := by rw [HE.out]; simp
    subst hR
    go_upto_region 1 with (fail)
    first | refine wp_region_belowS W (Below.refl _ _) ?_ | refine wp_region_below W (Below.refl _ _) (by kernel_rfl) (by kernel_rfl) ?_
    (try simp only [List.append_eq, List.cons_append, List.nil_append])
    repeat
      first
      | (go_big_quiet_step (first
        | (go_at_call 16; with_reducible exact Calls.bel (K1.out _))
        | fail))
      | (go_big_quiet_want; apply quiet_span; (intro p; go_simp; rfl); (try simp only [Act.put, List.setIfInBounds_toArray, List.set_cons_zero, List.set_cons_succ]); go_big_quiet_on)
    refine wpQuiet_nil ?_
    intro _ hw'
    obtain ⟨pq, hw''⟩ := hw'
    subst hw''
    go_wp2
    go_ret
    exact ⟨rfl, HB.out.trans (pq.below.mono (by have := HZ.out; omega))⟩
  · have K2 := hide (K2.out (HP.out rfl))
    by_cases h3 : s = 3
    · subst h3
      have hR : E = 0 := by rw [HE.out]; simp
      subst hR
      go_upto_region 1 with (fail)
      first | refine wp_region_belowS W (Below.refl _ _) ?_ | refine wp_region_below W (Below.refl _ _) (by kernel_rfl) (by kernel_rfl) ?_
      (try simp only [List.append_eq, List.cons_append, List.nil_append])
      repeat
        first
        | (go_big_quiet_step (first
          | (go_at_call 16; with_reducible exact Calls.bel (K1.out _))
          | fail))
        | (go_big_quiet_want; apply quiet_span; (intro p; go_simp; rfl); (try simp only [Act.put, List.setIfInBounds_toArray, List.set_cons_zero, List.set_cons_succ]); go_big_quiet_on)
      refine wpQuiet_nil ?_
      intro _ hw'
      obtain ⟨pq, hw''⟩ := hw'
      subst hw''
      go_wp2
      go_ret
      exact ⟨rfl, HB.out.trans (pq.below.mono (by have := HZ.out; omega))⟩
    · have hR : E = l + id + 1 := by rw [HE.out]; simp [h3]
      have hd : (s == 3) = false := by simpa using h3
      have HS1 : wrap64 (wrap64 (l + id) + 1) = E := by rw [hR]; exact HS.out rfl
      clear HE hR h3
      go_upto_region 1 with (fail)
      first | refine wp_region_belowS W (Below.refl _ _) ?_ | refine wp_region_below W (Below.refl _ _) (by kernel_rfl) (by kernel_rfl) ?_
      (try simp only [List.append_eq, List.cons_append, List.nil_append])
      repeat
        first
        | (go_big_quiet_step (first
          | (go_at_call 16; with_reducible exact Calls.bel (K1.out _))
          | fail))
        | (go_big_quiet_want; apply quiet_span; (intro p; go_simp; rfl); (try simp only [Act.put, List.setIfInBounds_toArray, List.set_cons_zero, List.set_cons_succ]); go_big_quiet_on)
      refine wpQuiet_nil ?_
      intro _ hw'
      obtain ⟨pq, hw''⟩ := hw'
      subst hw''
      go_upto_region 3 with (fail)
      first | refine wp_region_belowS W (pq.below) ?_ | refine wp_region_below W (pq.below) (by kernel_rfl) (by kernel_rfl) ?_
      (try simp only [List.append_eq, List.cons_append, List.nil_append])
      repeat
        first
        | (go_big_quiet_step (first
          | (go_at_call 47; with_reducible exact Calls.bel_same (K2.out _))
          | fail))
        | (go_big_quiet_want; apply quiet_span; (intro p; go_simp; rfl); (try simp only [Act.put, List.setIfInBounds_toArray, List.set_cons_zero, List.set_cons_succ]); go_big_quiet_on)
      refine wpQuiet_nil ?_
      intro _ hw'
      obtain ⟨pr, hw''⟩ := hw'
      subst hw''
      go_wp2
      go_ret
      exact ⟨by first | rfl | rw [HS1], HB.out.trans (pr.below.mono (by have := HZ.out; omega))⟩
set_option maxHeartbeats 1000000 in
theorem endR_any (w : World) (f : Flw) : Calls Try.prog 21 #[flV f] w (RetV w (.int .i64 (endF f))) := by
  obtain ⟨W, hW, r1, z1, b1⟩ := alloc_nm w (.cells (flA f) 23)
  have K1 := hide (fun p : BW W => rightFlowR_any p.w f)
  have K2 := hide (fun (h : f.p = 6 ∨ f.p = 17) (p : BW W) => idleR_any p.w f.p h)
  have HE : Hid (endF f = if rightB f = true ∧ f.s ≠ 3 then f.l + idleF f.p + 1 else 0) := hide rfl
  have HS := hide (fun h => endV_small (f := f) h)
  have HP := hide (fun h => rightB_p (f := f) h)
  obtain ⟨E, hE⟩ : ∃ E, E = endF f := ⟨_, rfl⟩
  obtain ⟨rb, hrb⟩ : ∃ rb, rb = rightB f := ⟨_, rfl⟩
  obtain ⟨id, hid⟩ : ∃ id, id = idleF f.p := ⟨_, rfl⟩
  rw [← hE, ← hrb, ← hid] at HE
  rw [← hE]
  rw [← hrb, ← hid] at HS
  rw [← hrb] at K1 HP
  rw [← hid] at K2
  clear hE hrb hid
  obtain ⟨p, s, l⟩ := f
  unfold flV flA at *
  have HB := hide b1
  have k0 : W.cell? ⟨w.heap.size, 0, none⟩ = some (.int .i64 p) := (cell_of_row W _ 0 _ _ (0, 0) r1).trans rfl
  have k1 : W.cell? ⟨w.heap.size, 1, none⟩ = some (.int .i64 s) := (cell_of_row W _ 1 _ _ (0, 0) r1).trans rfl
  have k2 : W.cell? ⟨w.heap.size, 2, none⟩ = some (.int .i64 l) := (cell_of_row W _ 2 _ _ (0, 0) r1).trans rfl
  have R0 : ∀ q : BW W, q.w.cell? ⟨w.heap.size, 0, none⟩ = some (.int .i64 p) := fun q => q.cell k0
  have R1 : ∀ q : BW W, q.w.cell? ⟨w.heap.size, 1, none⟩ = some (.int .i64 s) := fun q => q.cell k1
  have R2 : ∀ q : BW W, q.w.cell? ⟨w.heap.size, 2, none⟩ = some (.int .i64 l) := fun q => q.cell k2
  have RX : ∀ q : BW W, q.w.heap[w.heap.size]? = some (.cells #[.int .i64 p, .int .i64 s, .int .i64 l] 23 (0, 0)) := fun q => q.block r1
  have HZ := hide z1
  clear b1 z1
  go_enter Try.func21, Try.ntmps21
  cases rb
  · have hR : E = 0 := by rw [HE.out]; simp
    subst hR
    go_upto_region 1 with (fail)
    first | refine wp_region_belowS W (Below.refl _ _) ?_ | refine wp_region_below W (Below.refl _ _) (by kernel_rfl) (by kernel_rfl) ?_
    (try simp only [List.append_eq, List.cons_append, List.nil_append])
    repeat
      first
      | (go_big_quiet_step (first
        | (go_at_call 17; with_reducible exact Calls.bel (K1.out _))
        | fail))
      | (go_big_quiet_want; apply quiet_span; (intro p; go_simp; rfl); (try simp only [Act.put, List.setIfInBounds_toArray, List.set_cons_zero, List.set_cons_succ]); go_big_quiet_on)
    refine wpQuiet_nil ?_
    intro _ hw'
    obtain ⟨pq, hw''⟩ := hw'
    subst hw''
    go_wp2
    go_ret
    exact ⟨rfl, HB.out.trans (pq.below.mono (by have := HZ.out; omega))⟩
  · have K2 := hide (K2.out (HP.out rfl))
    by_cases h3 : s = 3
    · subst h3
      have hR : E = 0 := by rw [HE.out]; simp
      subst hR
      go_upto_region 1 with (fail)
      first | refine wp_region_belowS W (Below.refl _ _) ?_ | refine wp_region_below W (Below.refl _ _) (by kernel_rfl) (by kernel_rfl) ?_
      (try simp only [List.append_eq, List.cons_append, List.nil_append])
      repeat
        first
        | (go_big_quiet_step (first
          | (go_at_call 17; with_reducible exact Calls.bel (K1.out _))
          | fail))
        | (go_big_quiet_want; apply quiet_span; (intro p; go_simp; rfl); (try simp only [Act.put, List.setIfInBounds_toArray, List.set_cons_zero, List.set_cons_succ]); go_big_quiet_on)
      refine wpQuiet_nil ?_
      intro _ hw'
      obtain ⟨pq, hw''⟩ := hw'
      subst hw''
      go_wp2
      go_ret
      exact ⟨rfl, HB.out.trans (pq.below.mono (by have := HZ.out; omega))⟩
    · have hR : E = l + id + 1 := by rw [HE.out]; simp [h3]
      have hd : (s == 3) = false := by simpa using h3
      have HS1 : wrap64 (wrap64 (l + id) + 1) = E := by rw [hR]; exact HS.out rfl
      clear HE hR h3
      go_upto_region 1 with (fail)
      first | refine wp_region_belowS W (Below.refl _ _) ?_ | refine wp_region_below W (Below.refl _ _) (by kernel_rfl) (by kernel_rfl) ?_
      (try simp only [List.append_eq, List.cons_append, List.nil_append])
      repeat
        first
        | (go_big_quiet_step (first
          | (go_at_call 17; with_reducible exact Calls.bel (K1.out _))
          | fail))
        | (go_big_quiet_want; apply quiet_span; (intro p; go_simp; rfl); (try simp only [Act.put, List.setIfInBounds_toArray, List.set_cons_zero, List.set_cons_succ]); go_big_quiet_on)
      refine wpQuiet_nil ?_
      intro _ hw'
      obtain ⟨pq, hw''⟩ := hw'
      subst hw''
      go_upto_region 3 with (fail)
      first | refine wp_region_belowS W (pq.below) ?_ | refine wp_region_below W (pq.below) (by kernel_rfl) (by kernel_rfl) ?_
      (try simp only [List.append_eq, List.cons_append, List.nil_append])
      repeat
        first
        | (go_big_quiet_step (first
          | (go_at_call 46; with_reducible exact Calls.bel_same (K2.out _))
          | fail))
        | (go_big_quiet_want; apply quiet_span; (intro p; go_simp; rfl); (try simp only [Act.put, List.setIfInBounds_toArray, List.set_cons_zero, List.set_cons_succ]); go_big_quiet_on)
      refine wpQuiet_nil ?_
      intro _ hw'
      obtain ⟨pr, hw''⟩ := hw'
      subst hw''
      go_wp2
      go_ret
      exact ⟨by first | rfl | rw [HS1], HB.out.trans (pr.below.mono (by have := HZ.out; omega))⟩
theorem endF_pos {f : Flw} (h1 : rightB f = true) (h2 : f.s ≠ 3) : endF f = f.l + idleF f.p + 1 := if_pos ⟨h1, h2⟩
theorem endF_neg {f : Flw} (h : rightB f = false ∨ f.s = 3) : endF f = 0 := if_neg (by rcases h with h | h <;> simp [h])
theorem live_end (f : Flw) (now : Int) : liveB f now = (rightB f && (decide (f.l ≤ now) && decide (now < endF f))) := by
  rw [Bool.eq_iff_iff, liveB_iff]
  simp only [Bool.and_eq_true, decide_eq_true_eq]
  constructor
  · rintro ⟨h1, h2, h3, h4⟩
    rw [endF_pos h1 h2]; exact ⟨h1, h3, by omega⟩
  · rintro ⟨h1, h2, h3⟩
    have := (clockB_iff.1 (rightB_iff.1 h1).2).1
    by_cases h5 : f.s = 3
    · rw [endF_neg (.inr h5)] at h3; omega
    · rw [endF_pos h1 h5] at h3; exact ⟨h1, h5, h2, by omega⟩
set_option maxHeartbeats 1000000 in
theorem liveF_any (w : World) (f : Flw) (now : Int) : Calls Try.prog 18 #[flV f, .int .i64 now] w (RetV w (.bool (liveB f now))) := by
  obtain ⟨W, hW, r1, z1, b1⟩ := alloc_nm w (.cells (flA f) 24)
  have K1 := hide (fun p : BW W => rightFlow_any p.w f)
  have K2 := hide (fun p : BW W => endF_any p.w f)
  have HE : Hid (liveB f now = (rightB f && (decide (f.l ≤ now) && decide (now < endF f)))) := hide (live_end f now)
  obtain ⟨E, hE⟩ : ∃ E, E = endF f := ⟨_, rfl⟩
  rw [← hE] at HE K2
  obtain ⟨rb, hrb⟩ : ∃ rb, rb = rightB f := ⟨_, rfl⟩
  obtain ⟨L, hL⟩ : ∃ L, L = liveB f now := ⟨_, rfl⟩
  rw [← hL] at HE
  rw [← hL]
  rw [← hrb] at HE K1
  clear hE hrb hL
  obtain ⟨p, s, l⟩ := f
  unfold flV flA at *
  have HB := hide b1
  have k0 : W.cell? ⟨w.heap.size, 0, none⟩ = some (.int .i64 p) := (cell_of_row W _ 0 _ _ (0, 0) r1).trans rfl
  have k1 : W.cell? ⟨w.heap.size, 1, none⟩ = some (.int .i64 s) := (cell_of_row W _ 1 _ _ (0, 0) r1).trans rfl
  have k2 : W.cell? ⟨w.heap.size, 2, none⟩ = some (.int .i64 l) := (cell_of_row W _ 2 _ _ (0, 0) r1).trans rfl
  have R0 : ∀ q : BW W, q.w.cell? ⟨w.heap.size, 0, none⟩ = some (.int .i64 p) := fun q => q.cell k0
  have R1 : ∀ q : BW W, q.w.cell? ⟨w.heap.size, 1, none⟩ = some (.int .i64 s) := fun q => q.cell k1
  have R2 : ∀ q : BW W, q.w.cell? ⟨w.heap.size, 2, none⟩ = some (.int .i64 l) := fun q => q.cell k2
  have RX : ∀ q : BW W, q.w.heap[w.heap.size]? = some (.cells #[.int .i64 p, .int .i64 s, .int .i64 l] 24 (0, 0)) := fun q => q.block r1
  have HZ := hide z1
  clear b1 z1
  go_enter Try.func18, Try.ntmps18
  cases rb
  · have hR : L = false := by rw [HE.out]; simp
    subst hR
    go_upto_region 1 with (fail)
    first | refine wp_region_belowS W (Below.refl _ _) ?_ | refine wp_region_below W (Below.refl _ _) (by kernel_rfl) (by kernel_rfl) ?_
    (try simp only [List.append_eq, List.cons_append, List.nil_append])
    repeat
      first
      | (go_big_quiet_step (first
        | (go_at_call 16; with_reducible exact Calls.bel (K1.out _))
        | fail))
      | (go_big_quiet_want; apply quiet_span; (intro p; go_simp; rfl); (try simp only [Act.put, List.setIfInBounds_toArray, List.set_cons_zero, List.set_cons_succ]); go_big_quiet_on)
    refine wpQuiet_nil ?_
    intro _ hw'
    obtain ⟨pq, hw''⟩ := hw'
    subst hw''
    go_wp2
    go_ret
    exact ⟨rfl, HB.out.trans (pq.below.mono (by have := HZ.out; omega))⟩
  · by_cases h1 : l ≤ now
    · have d1 : decide (now ≥ l) = true := by simpa using h1
      obtain ⟨q2, hq2⟩ : ∃ q2, q2 = decide (now < E) := ⟨_, rfl⟩
      have d2 := hq2.symm
      have hR : L = q2 := by rw [HE.out]; simp [h1, hq2]
      clear hq2
      subst hR
      go_upto_region 1 with (fail)
      first | refine wp_region_belowS W (Below.refl _ _) ?_ | refine wp_region_below W (Below.refl _ _) (by kernel_rfl) (by kernel_rfl) ?_
      (try simp only [List.append_eq, List.cons_append, List.nil_append])
      repeat
        first
        | (go_big_quiet_step (first
          | (go_at_call 16; with_reducible exact Calls.bel (K1.out _))
          | (go_at_call 20; with_reducible exact Calls.bel (K2.out _))
          | fail))
        | (go_big_quiet_want; apply quiet_span; (intro p; go_simp; rfl); (try simp only [Act.put, List.setIfInBounds_toArray, List.set_cons_zero, List.set_cons_succ]); go_big_quiet_on)
      refine wpQuiet_nil ?_
      intro _ hw'
      obtain ⟨pq, hw''⟩ := hw'
      subst hw''
      go_wp2
      go_ret
      exact ⟨rfl, HB.out.trans (pq.below.mono (by have := HZ.out; omega))⟩
    · have d1 : decide (now ≥ l) = false := by simpa using h1
      have hR : L = false := by rw [HE.out]; simp [h1]
      subst hR
      go_upto_region 1 with (fail)
      first | refine wp_region_belowS W (Below.refl _ _) ?_ | refine wp_region_below W (Below.refl _ _) (by kernel_rfl) (by kernel_rfl) ?_
      (try simp only [List.append_eq, List.cons_append, List.nil_append])
      repeat
        first
        | (go_big_quiet_step (first
          | (go_at_call 16; with_reducible exact Calls.bel (K1.out _))
          | fail))
        | (go_big_quiet_want; apply quiet_span; (intro p; go_simp; rfl); (try simp only [Act.put, List.setIfInBounds_toArray, List.set_cons_zero, List.set_cons_succ]); go_big_quiet_on)
      refine wpQuiet_nil ?_
      intro _ hw'
      obtain ⟨pq, hw''⟩ := hw'
      subst hw''
      go_wp2
      go_ret
      exact ⟨rfl, HB.out.trans (pq.below.mono (by have := HZ.out; omega))⟩
set_option maxHeartbeats 1000000 in
theorem liveR_any (w : World) (f : Flw) (now : Int) (hnow : now ≤ 9223372036854775807) : Calls Try.prog 19 #[flV f, .int .i64 now] w (RetV w (.bool (liveB f now))) := by
  obtain ⟨W, hW, r1, z1, b1⟩ := alloc_nm w (.cells (flA f) 23)
  have K1 := hide (fun p : BW W => rightFlowR_any p.w f)
  have K2 := hide (fun (h : rightB f = true) (p : BW W) => idleR_any p.w f.p (rightB_p h))
  have HE : Hid (liveB f now = (rightB f && (f.s != 3 && (decide (f.l ≤ now) && decide (now ≤ f.l + idleF f.p))))) := hide (by simp only [liveB, Bool.and_assoc])
  have HS : Hid (rightB f = true → f.l ≤ now → wrap64 (now - f.l) = now - f.l) := hide fun h h1 => by
    have := (clockB_iff.1 (rightB_iff.1 h).2).1
    rw [wr64_inV _ (by omega) (by omega)]
  obtain ⟨id, hE⟩ : ∃ id, id = idleF f.p := ⟨_, rfl⟩
  rw [← hE] at HE K2
  obtain ⟨rb, hrb⟩ : ∃ rb, rb = rightB f := ⟨_, rfl⟩
  obtain ⟨L, hL⟩ : ∃ L, L = liveB f now := ⟨_, rfl⟩
  rw [← hL] at HE
  rw [← hL]
  rw [← hrb] at HE K1 K2 HS
  clear hE hrb hL
  obtain ⟨p, s, l⟩ := f
  unfold flV flA at *
  have HB := hide b1
  have k0 : W.cell? ⟨w.heap.size, 0, none⟩ = some (.int .i64 p) := (cell_of_row W _ 0 _ _ (0, 0) r1).trans rfl
  have k1 : W.cell? ⟨w.heap.size, 1, none⟩ = some (.int .i64 s) := (cell_of_row W _ 1 _ _ (0, 0) r1).trans rfl
  have k2 : W.cell? ⟨w.heap.size, 2, none⟩ = some (.int .i64 l) := (cell_of_row W _ 2 _ _ (0, 0) r1).trans rfl
  have R0 : ∀ q : BW W, q.w.cell? ⟨w.heap.size, 0, none⟩ = some (.int .i64 p) := fun q => q.cell k0
  have R1 : ∀ q : BW W, q.w.cell? ⟨w.heap.size, 1, none⟩ = some (.int .i64 s) := fun q => q.cell k1
  have R2 : ∀ q : BW W, q.w.cell? ⟨w.heap.size, 2, none⟩ = some (.int .i64 l) := fun q => q.cell k2
  have RX : ∀ q : BW W, q.w.heap[w.heap.size]? = some (.cells #[.int .i64 p, .int .i64 s, .int .i64 l] 23 (0, 0)) := fun q => q.block r1
  have HZ := hide z1
  clear b1 z1
  go_enter Try.func19, Try.ntmps19
  cases rb
  · have hR : L = false := by rw [HE.out]; simp
    subst hR
    go_upto_region 1 with (fail)
    first | refine wp_region_belowS W (Below.refl _ _) ?_ | refine wp_region_below W (Below.refl _ _) (by kernel_rfl) (by kernel_rfl) ?_
    (try simp only [List.append_eq, List.cons_append, List.nil_append])
    repeat
      first
      | (go_big_quiet_step (first
        | (go_at_call 17; with_reducible exact Calls.bel (K1.out _))
        | fail))
      | (go_big_quiet_want; apply quiet_span; (intro p; go_simp; rfl); (try simp only [Act.put, List.setIfInBounds_toArray, List.set_cons_zero, List.set_cons_succ]); go_big_quiet_on)
    refine wpQuiet_nil ?_
    intro _ hw'
    obtain ⟨pq, hw''⟩ := hw'
    subst hw''
    go_wp2
    go_ret
    exact ⟨rfl, HB.out.trans (pq.below.mono (by have := HZ.out; omega))⟩
  · have K2 := hide (K2.out rfl)
    by_cases h3 : s = 3
    · subst h3
      have hR : L = false := by rw [HE.out]; simp
      subst hR
      go_upto_region 1 with (fail)
      first | refine wp_region_belowS W (Below.refl _ _) ?_ | refine wp_region_below W (Below.refl _ _) (by kernel_rfl) (by kernel_rfl) ?_
      (try simp only [List.append_eq, List.cons_append, List.nil_append])
      repeat
        first
        | (go_big_quiet_step (first
          | (go_at_call 17; with_reducible exact Calls.bel (K1.out _))
          | fail))
        | (go_big_quiet_want; apply quiet_span; (intro p; go_simp; rfl); (try simp only [Act.put, List.setIfInBounds_toArray, List.set_cons_zero, List.set_cons_succ]); go_big_quiet_on)
      refine wpQuiet_nil ?_
      intro _ hw'
      obtain ⟨pq, hw''⟩ := hw'
      subst hw''
      go_wp2
      go_ret
      exact ⟨rfl, HB.out.trans (pq.below.mono (by have := HZ.out; omega))⟩
    · have d3 : (s != 3) = true := by simpa using h3
      by_cases h1 : l ≤ now
      · have d1 : decide (now ≥ l) = true := by simpa using h1
        have hw := HS.out rfl h1
        obtain ⟨q2, hq2⟩ : ∃ q2, q2 = decide (now - l ≤ id) := ⟨_, rfl⟩
        have d2 := hq2.symm
        have hR : L = q2 := by rw [HE.out]; rw [hq2]; simp only [h1, d3, decide_true, Bool.true_and]; rw [decide_eq_decide]; omega
        clear hq2
        subst hR
        go_upto_region 1 with (fail)
        first | refine wp_region_belowS W (Below.refl _ _) ?_ | refine wp_region_below W (Below.refl _ _) (by kernel_rfl) (by kernel_rfl) ?_
        (try simp only [List.append_eq, List.cons_append, List.nil_append])
        repeat
          first
          | (go_big_quiet_step (first
            | (go_at_call 17; with_reducible exact Calls.bel (K1.out _))
            | (go_at_call 46; with_reducible exact Calls.bel_same (K2.out _))
            | fail))
          | (go_big_quiet_want; apply quiet_span; (intro p; go_simp; rfl); (try simp only [Act.put, List.setIfInBounds_toArray, List.set_cons_zero, List.set_cons_succ]); go_big_quiet_on)
        refine wpQuiet_nil ?_
        intro _ hw'
        obtain ⟨pq, hw''⟩ := hw'
        subst hw''
        go_wp2
        go_ret
        exact ⟨rfl, HB.out.trans (pq.below.mono (by have := HZ.out; omega))⟩
      · have d1 : decide (now ≥ l) = false := by simpa using h1
        have hR : L = false := by rw [HE.out]; simp [h1]
        subst hR
        go_upto_region 1 with (fail)
        first | refine wp_region_belowS W (Below.refl _ _) ?_ | refine wp_region_below W (Below.refl _ _) (by kernel_rfl) (by kernel_rfl) ?_
        (try simp only [List.append_eq, List.cons_append, List.nil_append])
        repeat
          first
          | (go_big_quiet_step (first
            | (go_at_call 17; with_reducible exact Calls.bel (K1.out _))
            | fail))
          | (go_big_quiet_want; apply quiet_span; (intro p; go_simp; rfl); (try simp only [Act.put, List.setIfInBounds_toArray, List.set_cons_zero, List.set_cons_succ]); go_big_quiet_on)
        refine wpQuiet_nil ?_
        intro _ hw'
        obtain ⟨pq, hw''⟩ := hw'
        subst hw''
        go_wp2
        go_ret
        exact ⟨rfl, HB.out.trans (pq.below.mono (by have := HZ.out; omega))⟩
end Go.Proofs.Ytbkipfmnbfjkcaa
