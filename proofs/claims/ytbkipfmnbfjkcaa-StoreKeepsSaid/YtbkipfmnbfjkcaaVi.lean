/-
  The walks of FlowIdle and FlowNever.
-/
import Derived.Test.YtbkipfmnbfjkcaaVh
namespace Go.Proofs.Ytbkipfmnbfjkcaa
open Go.RowKit
set_option maxRecDepth 100000
set_option linter.unusedVariables false
set_option linter.unusedSimpArgs false
attribute [local go_sem ↓] exec_span exec_put exec_build heap_alloc_new heap_old
attribute [local go_sem] spanQ_ptr spanC_some heap_of_drew heap_of_drewN putAt_ptr putOk_ptr oldOk_some World.setRow_alloc_new rs_Flow rs_RFlow built_flow0 built_rflow0 built_flow2 built_flow3 built_rflow3
theorem live_none {f : Flw} (h : rightB f = false ∨ f.s = 3) (now : Int) : liveB f now = false := by
  cases hl : liveB f now
  · rfl
  · obtain ⟨h1, h2, _⟩ := liveB_iff.1 hl
    rcases h with h | h
    · rw [h] at h1; cases h1
    · exact absurd h h2
theorem idleF_pos (p : Int) : 20 ≤ idleF p := by unfold idleF; split <;> omega
theorem live_last {f : Flw} (h1 : rightB f = true) (h2 : f.s ≠ 3) : liveB f f.l = true := liveB_iff.2 ⟨h1, h2, Int.le_refl _, by have := idleF_pos f.p; omega⟩
theorem live_at_end {f : Flw} (h1 : rightB f = true) (h2 : f.s ≠ 3) : liveB f (endF f) = false := by
  rw [live_end]; simp
theorem turnF_in {s fl : Int} (h : 1 ≤ s ∧ s ≤ 3) : 1 ≤ turnF s fl ∧ turnF s fl ≤ 3 := by
  unfold turnF turnB
  split
  · omega
  split
  · omega
  split <;> omega
theorem turnF_zero (s : Int) : turnF s 0 = s := by simp [turnF, turnB, hasB]
theorem step_right {f : Flw} {fl now : Int} (h1 : rightB f = true) (h2 : pktB f.p fl now = true) : rightB ⟨f.p, turnF f.s fl, now⟩ = true := by
  obtain ⟨h3, h4⟩ := rightB_iff.1 h1
  obtain ⟨h5, _, _, h6⟩ := pktB_iff.1 h2
  refine rightB_iff.2 ⟨?_, h6⟩
  rcases h3 with ⟨h7, h8, h9⟩ | ⟨h7, h8⟩
  · have := turnF_in (s := f.s) (fl := fl) ⟨h8, h9⟩
    exact .inl ⟨h7, this.1, this.2⟩
  · refine .inr ⟨h7, ?_⟩
    rw [h5 h7]
    dsimp only
    rw [turnF_zero, h8]
/-- what comes of another packet. -/
theorem step_cases (f : Flw) (fl now : Int) :
    ((stepF f fl now).2 = 0 ∧ f.s ≠ 3 ∧ (stepF f fl now).1.l = now ∧ rightB (stepF f fl now).1 = true ∧ (endF (stepF f fl now).1 = 0 ∨ (endF (stepF f fl now).1 ≠ 0 ∧ endF f ≤ endF (stepF f fl now).1))) ∨
    ((stepF f fl now).2 ≠ 0 ∧ (stepF f fl now).1 = fl0) := by
  unfold stepF
  split
  · exact .inr ⟨by decide, rfl⟩
  · next h =>
    have hr : rightB f = true := by cases hb : rightB f <;> simp_all
    have hp : pktB f.p fl now = true := by cases hb : pktB f.p fl now <;> simp_all
    split
    · exact .inr ⟨by decide, rfl⟩
    · next hn =>
      split
      · exact .inr ⟨by decide, rfl⟩
      · next hl =>
        have hl' : liveB f now = true := by cases hb : liveB f now <;> simp_all
        obtain ⟨_, h3, h4, h5⟩ := liveB_iff.1 hl'
        have hR := step_right hr hp
        refine .inl ⟨rfl, h3, rfl, hR, ?_⟩
        by_cases h6 : turnF f.s fl = 3
        · exact .inl (endF_neg (.inr h6))
        · right
          rw [endF_pos hR h6, endF_pos hr h3]
          have := idleF_pos f.p
          have := (clockB_iff.1 (pktB_iff.1 hp).2.2.2).1
          dsimp only
          exact ⟨by omega, by omega⟩
set_option maxHeartbeats 16000000 in
theorem flowIdle_any (w : World) (f : Flw) (now : Int) : Calls Try.prog 5 #[flV f, .int .i64 now] w (RetV w (.bool true)) := by
  obtain ⟨p, s, l⟩ := f
  have KG := hide (fun W => given19_any W ⟨p, s, l⟩)
  have KR := hide (fun W => rightFlow_any W ⟨p, s, l⟩)
  have KL := hide (fun W => liveF_any W ⟨p, s, l⟩ now)
  have KLl := hide (fun W => liveF_any W ⟨p, s, l⟩ l)
  have KLe := hide (fun W => liveF_any W ⟨p, s, l⟩ (endF ⟨p, s, l⟩))
  have KE := hide (fun W => endF_any W ⟨p, s, l⟩)
  have KK := hide (fun W => known19_any W)
  have C3 := cells3
  have X3 := ext3
  have H0 := hide (fun h => live_none (f := ⟨p, s, l⟩) h now)
  have H1 := hide (fun h => endF_neg (f := ⟨p, s, l⟩) h)
  have H2 := hide (fun h1 h2 => live_last (f := ⟨p, s, l⟩) h1 h2)
  have H3 := hide (fun h1 h2 => live_at_end (f := ⟨p, s, l⟩) h1 h2)
  have H4 := hide (live_end ⟨p, s, l⟩ now)
  obtain ⟨rb, h1⟩ : ∃ x, x = rightB ⟨p, s, l⟩ := ⟨_, rfl⟩
  obtain ⟨lb, h2⟩ : ∃ x, x = liveB ⟨p, s, l⟩ now := ⟨_, rfl⟩
  obtain ⟨E, h3⟩ : ∃ x, x = endF ⟨p, s, l⟩ := ⟨_, rfl⟩
  dsimp only at *
  obtain ⟨ll, h4⟩ : ∃ x, x = liveB ⟨p, s, l⟩ l := ⟨_, rfl⟩
  rw [← h3] at KE KLe H1 H3 H4
  obtain ⟨le, h5⟩ : ∃ x, x = liveB ⟨p, s, l⟩ E := ⟨_, rfl⟩
  rw [← h1] at KR H0 H1 H2 H3 H4
  rw [← h2] at KL H0 H4
  rw [← h4] at KLl H2
  rw [← h5] at KLe H3
  clear h1 h2 h3 h4 h5
  unfold flV flA at *
  dsimp only at *
  cases rb
  · obtain rfl : lb = false := H0.out (.inl rfl)
    obtain rfl : E = 0 := H1.out (.inl rfl)
    clear H0 H1 H2 H3 H4
    have HB := hide (Below.refl w.heap.size w)
    obtain ⟨W1, hW1, r_f, z1, b1⟩ := alloc_nm w (.cells #[.int .i64 p, .int .i64 s, .int .i64 l] 23)
    clear z1
    replace HB := hide (HB.out.trans (b1.mono HB.out.size))
    clear b1
    go_enter Try.func5, Try.ntmps5
    go_wp2_with fail
    go_at_call 11
    with_reducible refine (KG.out _).mono ?_
    rintro e W2 ⟨rfl, b2⟩
    replace r_f := keepB b2 r_f
    replace HB := hide (HB.out.trans (b2.mono HB.out.size))
    clear b2
    dsimp only
    obtain ⟨W3, hW3, r_x, z3, b3⟩ := alloc_nm W2 (.cells #[.int .i64 p, .int .i64 s, .int .i64 l] 24)
    clear z3
    replace r_f := keepB b3 r_f
    replace HB := hide (HB.out.trans (b3.mono HB.out.size))
    clear b3
    go_wp2_with fail
    go_at_call 20
    with_reducible refine (KE.out _).mono ?_
    rintro e W4 ⟨rfl, b4⟩
    replace r_f := keepB b4 r_f
    replace r_x := keepB b4 r_x
    replace HB := hide (HB.out.trans (b4.mono HB.out.size))
    clear b4
    dsimp only
    go_wp2_with fail
    go_at_call 16
    with_reducible refine (KR.out _).mono ?_
    rintro e W5 ⟨rfl, b5⟩
    replace r_f := keepB b5 r_f
    replace r_x := keepB b5 r_x
    replace HB := hide (HB.out.trans (b5.mono HB.out.size))
    clear b5
    dsimp only
    go_upto_region 4 with (fail)
    have R_f : ∀ q : BW W5, q.w.heap[w.heap.size]? = some (.cells #[.int .i64 p, .int .i64 s, .int .i64 l] 23 (0, 0)) := fun q => q.block r_f
    have R_x : ∀ q : BW W5, q.w.heap[W2.heap.size]? = some (.cells #[.int .i64 p, .int .i64 s, .int .i64 l] 24 (0, 0)) := fun q => q.block r_x
    first | refine wp_region_belowS W5 (Below.refl _ _) ?_ | refine wp_region_below W5 (Below.refl _ _) (by kernel_rfl) (by kernel_rfl) ?_
    (try simp only [List.append_eq, List.cons_append, List.nil_append])
    repeat
      first
      | (go_big_quiet_step (first
        | (go_at_call 18; with_reducible exact Calls.bel (KL.out _))
        | (go_at_call 23; with_reducible exact Calls.bel (KK.out _))
        | fail))
      | (go_big_quiet_want; apply quiet_span; (intro p; go_simp; rfl); (try simp only [Act.put, List.setIfInBounds_toArray, List.set_cons_zero, List.set_cons_succ]); go_big_quiet_on)
    refine wpQuiet_nil ?_
    intro _ hw'
    obtain ⟨pq6, hw''⟩ := hw'
    subst hw''
    clear R_f
    clear R_x
    obtain ⟨W6, b6⟩ := pq6
    dsimp only
    replace r_f := keepB b6 r_f
    replace r_x := keepB b6 r_x
    replace HB := hide (HB.out.trans (b6.mono HB.out.size))
    clear b6
    go_wp2
    go_ret
    exact ⟨rfl, HB.out⟩
  by_cases h3 : s = 3
  · subst h3
    obtain rfl : lb = false := H0.out (.inr rfl)
    obtain rfl : E = 0 := H1.out (.inr rfl)
    clear H0 H1 H2 H3 H4
    have HB := hide (Below.refl w.heap.size w)
    obtain ⟨W1, hW1, r_f, z1, b1⟩ := alloc_nm w (.cells #[.int .i64 p, .int .i64 3, .int .i64 l] 23)
    clear z1
    replace HB := hide (HB.out.trans (b1.mono HB.out.size))
    clear b1
    go_enter Try.func5, Try.ntmps5
    go_wp2_with fail
    go_at_call 11
    with_reducible refine (KG.out _).mono ?_
    rintro e W2 ⟨rfl, b2⟩
    replace r_f := keepB b2 r_f
    replace HB := hide (HB.out.trans (b2.mono HB.out.size))
    clear b2
    dsimp only
    obtain ⟨W3, hW3, r_x, z3, b3⟩ := alloc_nm W2 (.cells #[.int .i64 p, .int .i64 3, .int .i64 l] 24)
    clear z3
    replace r_f := keepB b3 r_f
    replace HB := hide (HB.out.trans (b3.mono HB.out.size))
    clear b3
    go_wp2_with fail
    go_at_call 20
    with_reducible refine (KE.out _).mono ?_
    rintro e W4 ⟨rfl, b4⟩
    replace r_f := keepB b4 r_f
    replace r_x := keepB b4 r_x
    replace HB := hide (HB.out.trans (b4.mono HB.out.size))
    clear b4
    dsimp only
    go_wp2_with fail
    go_at_call 16
    with_reducible refine (KR.out _).mono ?_
    rintro e W5 ⟨rfl, b5⟩
    replace r_f := keepB b5 r_f
    replace r_x := keepB b5 r_x
    replace HB := hide (HB.out.trans (b5.mono HB.out.size))
    clear b5
    dsimp only
    have k1 : W5.cell? ⟨w.heap.size, 1, none⟩ = some (.int .i64 3) := (cell_of_row W5 _ 1 _ _ (0, 0) r_f).trans rfl
    go_upto_region 6 with (fail)
    have R_f : ∀ q : BW W5, q.w.heap[w.heap.size]? = some (.cells #[.int .i64 p, .int .i64 3, .int .i64 l] 23 (0, 0)) := fun q => q.block r_f
    have R_x : ∀ q : BW W5, q.w.heap[W2.heap.size]? = some (.cells #[.int .i64 p, .int .i64 3, .int .i64 l] 24 (0, 0)) := fun q => q.block r_x
    first | refine wp_region_belowS W5 (Below.refl _ _) ?_ | refine wp_region_below W5 (Below.refl _ _) (by kernel_rfl) (by kernel_rfl) ?_
    (try simp only [List.append_eq, List.cons_append, List.nil_append])
    repeat
      first
      | (go_big_quiet_step (first
        | (go_at_call 18; with_reducible exact Calls.bel (KL.out _))
        | (go_at_call 23; with_reducible exact Calls.bel (KK.out _))
        | fail))
      | (go_big_quiet_want; apply quiet_span; (intro p; go_simp; rfl); (try simp only [Act.put, List.setIfInBounds_toArray, List.set_cons_zero, List.set_cons_succ]); go_big_quiet_on)
    refine wpQuiet_nil ?_
    intro _ hw'
    obtain ⟨pq6, hw''⟩ := hw'
    subst hw''
    clear R_f
    clear R_x
    obtain ⟨W6, b6⟩ := pq6
    dsimp only
    replace r_f := keepB b6 r_f
    replace r_x := keepB b6 r_x
    replace HB := hide (HB.out.trans (b6.mono HB.out.size))
    clear b6
    go_wp2
    go_ret
    exact ⟨rfl, HB.out⟩
  obtain rfl : ll = true := H2.out rfl h3
  obtain rfl : le = false := H3.out rfl h3
  have hs : (s == 3) = false := by simpa using h3
  have HL : Hid (lb = (decide (l ≤ now) && decide (now < E))) := hide (by rw [H4.out]; simp)
  clear H0 H1 H2 H3 H4 h3
  by_cases h1 : l ≤ now
  · have d1 : decide (now ≥ l) = true := by simpa using h1
    obtain ⟨b, hb⟩ : ∃ b, b = decide (now < E) := ⟨_, rfl⟩
    obtain rfl : lb = b := by rw [HL.out, hb]; simp [h1]
    have d2 := hb.symm
    have d3 : (lb == lb) = true := by simp
    clear hb h1 HL
    have HB := hide (Below.refl w.heap.size w)
    obtain ⟨W1, hW1, r_f, z1, b1⟩ := alloc_nm w (.cells #[.int .i64 p, .int .i64 s, .int .i64 l] 23)
    clear z1
    replace HB := hide (HB.out.trans (b1.mono HB.out.size))
    clear b1
    go_enter Try.func5, Try.ntmps5
    go_wp2_with fail
    go_at_call 11
    with_reducible refine (KG.out _).mono ?_
    rintro e W2 ⟨rfl, b2⟩
    replace r_f := keepB b2 r_f
    replace HB := hide (HB.out.trans (b2.mono HB.out.size))
    clear b2
    dsimp only
    obtain ⟨W3, hW3, r_x, z3, b3⟩ := alloc_nm W2 (.cells #[.int .i64 p, .int .i64 s, .int .i64 l] 24)
    clear z3
    replace r_f := keepB b3 r_f
    replace HB := hide (HB.out.trans (b3.mono HB.out.size))
    clear b3
    go_wp2_with fail
    go_at_call 20
    with_reducible refine (KE.out _).mono ?_
    rintro e W4 ⟨rfl, b4⟩
    replace r_f := keepB b4 r_f
    replace r_x := keepB b4 r_x
    replace HB := hide (HB.out.trans (b4.mono HB.out.size))
    clear b4
    dsimp only
    go_wp2_with fail
    go_at_call 16
    with_reducible refine (KR.out _).mono ?_
    rintro e W5 ⟨rfl, b5⟩
    replace r_f := keepB b5 r_f
    replace r_x := keepB b5 r_x
    replace HB := hide (HB.out.trans (b5.mono HB.out.size))
    clear b5
    dsimp only
    have k1 : W5.cell? ⟨w.heap.size, 1, none⟩ = some (.int .i64 s) := (cell_of_row W5 _ 1 _ _ (0, 0) r_f).trans rfl
    have k2 : ∀ q : BW W5, q.w.cell? ⟨w.heap.size, 2, none⟩ = some (.int .i64 l) := fun q => (cell_of_row q.w _ 2 _ _ (0, 0) (q.block r_f)).trans rfl
    go_upto_region 7 with (fail)
    have R_f : ∀ q : BW W5, q.w.heap[w.heap.size]? = some (.cells #[.int .i64 p, .int .i64 s, .int .i64 l] 23 (0, 0)) := fun q => q.block r_f
    have R_x : ∀ q : BW W5, q.w.heap[W2.heap.size]? = some (.cells #[.int .i64 p, .int .i64 s, .int .i64 l] 24 (0, 0)) := fun q => q.block r_x
    first | refine wp_region_belowS W5 (Below.refl _ _) ?_ | refine wp_region_below W5 (Below.refl _ _) (by kernel_rfl) (by kernel_rfl) ?_
    (try simp only [List.append_eq, List.cons_append, List.nil_append])
    repeat
      first
      | (go_big_quiet_step (first
        | (go_at_call 18; with_reducible exact Calls.bel (KL.out _))
        | (go_at_call 18; with_reducible exact Calls.bel (KLl.out _))
        | (go_at_call 18; with_reducible exact Calls.bel (KLe.out _))
        | (go_at_call 23; with_reducible exact Calls.bel (KK.out _))
        | fail))
      | (go_big_quiet_want; apply quiet_span; (intro p; go_simp; rfl); (try simp only [Act.put, List.setIfInBounds_toArray, List.set_cons_zero, List.set_cons_succ]); go_big_quiet_on)
    refine wpQuiet_nil ?_
    intro _ hw'
    obtain ⟨pq6, hw''⟩ := hw'
    subst hw''
    clear R_f
    clear R_x
    obtain ⟨W6, b6⟩ := pq6
    dsimp only
    replace r_f := keepB b6 r_f
    replace r_x := keepB b6 r_x
    replace HB := hide (HB.out.trans (b6.mono HB.out.size))
    clear b6
    go_wp2
    go_ret
    exact ⟨rfl, HB.out⟩
  · have d1 : decide (now ≥ l) = false := by simpa using h1
    obtain rfl : lb = false := by rw [HL.out]; simp [h1]
    have d3 : (false == false) = true := by simp
    clear h1 HL
    have HB := hide (Below.refl w.heap.size w)
    obtain ⟨W1, hW1, r_f, z1, b1⟩ := alloc_nm w (.cells #[.int .i64 p, .int .i64 s, .int .i64 l] 23)
    clear z1
    replace HB := hide (HB.out.trans (b1.mono HB.out.size))
    clear b1
    go_enter Try.func5, Try.ntmps5
    go_wp2_with fail
    go_at_call 11
    with_reducible refine (KG.out _).mono ?_
    rintro e W2 ⟨rfl, b2⟩
    replace r_f := keepB b2 r_f
    replace HB := hide (HB.out.trans (b2.mono HB.out.size))
    clear b2
    dsimp only
    obtain ⟨W3, hW3, r_x, z3, b3⟩ := alloc_nm W2 (.cells #[.int .i64 p, .int .i64 s, .int .i64 l] 24)
    clear z3
    replace r_f := keepB b3 r_f
    replace HB := hide (HB.out.trans (b3.mono HB.out.size))
    clear b3
    go_wp2_with fail
    go_at_call 20
    with_reducible refine (KE.out _).mono ?_
    rintro e W4 ⟨rfl, b4⟩
    replace r_f := keepB b4 r_f
    replace r_x := keepB b4 r_x
    replace HB := hide (HB.out.trans (b4.mono HB.out.size))
    clear b4
    dsimp only
    go_wp2_with fail
    go_at_call 16
    with_reducible refine (KR.out _).mono ?_
    rintro e W5 ⟨rfl, b5⟩
    replace r_f := keepB b5 r_f
    replace r_x := keepB b5 r_x
    replace HB := hide (HB.out.trans (b5.mono HB.out.size))
    clear b5
    dsimp only
    have k1 : W5.cell? ⟨w.heap.size, 1, none⟩ = some (.int .i64 s) := (cell_of_row W5 _ 1 _ _ (0, 0) r_f).trans rfl
    have k2 : ∀ q : BW W5, q.w.cell? ⟨w.heap.size, 2, none⟩ = some (.int .i64 l) := fun q => (cell_of_row q.w _ 2 _ _ (0, 0) (q.block r_f)).trans rfl
    go_upto_region 7 with (fail)
    have R_f : ∀ q : BW W5, q.w.heap[w.heap.size]? = some (.cells #[.int .i64 p, .int .i64 s, .int .i64 l] 23 (0, 0)) := fun q => q.block r_f
    have R_x : ∀ q : BW W5, q.w.heap[W2.heap.size]? = some (.cells #[.int .i64 p, .int .i64 s, .int .i64 l] 24 (0, 0)) := fun q => q.block r_x
    first | refine wp_region_belowS W5 (Below.refl _ _) ?_ | refine wp_region_below W5 (Below.refl _ _) (by kernel_rfl) (by kernel_rfl) ?_
    (try simp only [List.append_eq, List.cons_append, List.nil_append])
    repeat
      first
      | (go_big_quiet_step (first
        | (go_at_call 18; with_reducible exact Calls.bel (KL.out _))
        | (go_at_call 18; with_reducible exact Calls.bel (KLl.out _))
        | (go_at_call 18; with_reducible exact Calls.bel (KLe.out _))
        | (go_at_call 23; with_reducible exact Calls.bel (KK.out _))
        | fail))
      | (go_big_quiet_want; apply quiet_span; (intro p; go_simp; rfl); (try simp only [Act.put, List.setIfInBounds_toArray, List.set_cons_zero, List.set_cons_succ]); go_big_quiet_on)
    refine wpQuiet_nil ?_
    intro _ hw'
    obtain ⟨pq6, hw''⟩ := hw'
    subst hw''
    clear R_f
    clear R_x
    obtain ⟨W6, b6⟩ := pq6
    dsimp only
    replace r_f := keepB b6 r_f
    replace r_x := keepB b6 r_x
    replace HB := hide (HB.out.trans (b6.mono HB.out.size))
    clear b6
    go_wp2
    go_ret
    exact ⟨rfl, HB.out⟩
set_option maxHeartbeats 16000000 in
theorem flowNever_any (w : World) (f : Flw) (fl now later : Int) : Calls Try.prog 6 #[flV f, .int .i64 fl, .int .i64 now, .int .i64 later] w (RetV w (.bool true)) := by
  have HC := hide (step_cases f fl now)
  have KS := hide (fun W => stepF_any W f fl now)
  obtain ⟨⟨⟨yp, ys, yl⟩, e⟩, hY⟩ : ∃ Y, Y = stepF f fl now := ⟨_, rfl⟩
  rw [← hY] at HC KS
  clear hY
  obtain ⟨p, s, l⟩ := f
  have KG := hide (fun W => given19_any W ⟨p, s, l⟩)
  have KT := hide (fun W => taken19_any W ⟨yp, ys, yl⟩)
  have KL := hide (fun W => liveF_any W ⟨p, s, l⟩ later)
  have KE := hide (fun W => endF_any W ⟨p, s, l⟩)
  have KEy := hide (fun W => endF_any W ⟨yp, ys, yl⟩)
  have KRy := hide (fun W => rightFlow_any W ⟨yp, ys, yl⟩)
  have KK := hide (fun W => known19_any W)
  have H0 := hide (fun h => live_none (f := ⟨p, s, l⟩) h later)
  have EQ := hide (fun W => eql_rflow W fl0)
  have C3 := cells3
  have X3 := ext3
  unfold flE flV flA fl0 at *
  dsimp only at *
  obtain ⟨E, h1⟩ : ∃ x, x = endF ⟨p, s, l⟩ := ⟨_, rfl⟩
  obtain ⟨Ey, h2⟩ : ∃ x, x = endF ⟨yp, ys, yl⟩ := ⟨_, rfl⟩
  obtain ⟨ry, h3⟩ : ∃ x, x = rightB ⟨yp, ys, yl⟩ := ⟨_, rfl⟩
  rw [← h1] at KE HC
  rw [← h2] at KEy HC
  rw [← h3] at KRy HC
  clear h1 h2 h3
  rcases HC.out with ⟨h1, h2, h3, h4, h5⟩ | ⟨h1, h2⟩
  · subst h1
    subst h4
    have hs : (s == 3) = false := by simpa using h2
    have hl : (yl == now) = true := by simpa using h3
    have e0 : ((0 : Int) != 0) = false := by simp
    clear HC H0 h2 h3
    rcases h5 with h5 | ⟨h5, h6⟩
    · have hy : (Ey == 0) = true := by simpa using h5
      clear h5
      have HB := hide (Below.refl w.heap.size w)
      obtain ⟨W1, hW1, r_f, z1, b1⟩ := alloc_nm w (.cells #[.int .i64 p, .int .i64 s, .int .i64 l] 23)
      clear z1
      replace HB := hide (HB.out.trans (b1.mono HB.out.size))
      clear b1
      go_enter Try.func6, Try.ntmps6
      go_wp2_with fail
      go_at_call 11
      with_reducible refine (KG.out _).mono ?_
      rintro e W2 ⟨rfl, b2⟩
      replace r_f := keepB b2 r_f
      replace HB := hide (HB.out.trans (b2.mono HB.out.size))
      clear b2
      dsimp only
      obtain ⟨W3, hW3, r_x, z3, b3⟩ := alloc_nm W2 (.cells #[.int .i64 p, .int .i64 s, .int .i64 l] 24)
      clear z3
      replace r_f := keepB b3 r_f
      replace HB := hide (HB.out.trans (b3.mono HB.out.size))
      clear b3
      go_wp2_with fail
      go_at_call 14
      with_reducible refine (KS.out _).mono ?_
      rintro e W4 ⟨rfl, b4⟩
      replace r_f := keepB b4 r_f
      replace r_x := keepB b4 r_x
      replace HB := hide (HB.out.trans (b4.mono HB.out.size))
      clear b4
      dsimp only
      obtain ⟨W5, hW5, r_y, z5, b5⟩ := alloc_nm W4 (.cells #[.int .i64 yp, .int .i64 ys, .int .i64 yl] 24)
      clear z5
      replace r_f := keepB b5 r_f
      replace r_x := keepB b5 r_x
      replace HB := hide (HB.out.trans (b5.mono HB.out.size))
      clear b5
      have k1 : ∀ q : BW W5, q.w.cell? ⟨w.heap.size, 1, none⟩ = some (.int .i64 s) := fun q => (cell_of_row q.w _ 1 _ _ (0, 0) (q.block r_f)).trans rfl
      go_upto_region 3 with (fail)
      have R_f : ∀ q : BW W5, q.w.heap[w.heap.size]? = some (.cells #[.int .i64 p, .int .i64 s, .int .i64 l] 23 (0, 0)) := fun q => q.block r_f
      have R_x : ∀ q : BW W5, q.w.heap[W2.heap.size]? = some (.cells #[.int .i64 p, .int .i64 s, .int .i64 l] 24 (0, 0)) := fun q => q.block r_x
      have R_y : ∀ q : BW W5, q.w.heap[W4.heap.size]? = some (.cells #[.int .i64 yp, .int .i64 ys, .int .i64 yl] 24 (0, 0)) := fun q => q.block r_y
      first | refine wp_region_belowS W5 (Below.refl _ _) ?_ | refine wp_region_below W5 (Below.refl _ _) (by kernel_rfl) (by kernel_rfl) ?_
      (try simp only [List.append_eq, List.cons_append, List.nil_append])
      repeat
        first
        | (go_big_quiet_step (first
          | (go_at_call 18; with_reducible exact Calls.bel (KL.out _))
          | fail))
        | (go_big_quiet_want; apply quiet_span; (intro p; go_simp; rfl); (try simp only [Act.put, List.setIfInBounds_toArray, List.set_cons_zero, List.set_cons_succ]); go_big_quiet_on)
      refine wpQuiet_nil ?_
      intro _ hw'
      obtain ⟨pq6, hw''⟩ := hw'
      subst hw''
      clear R_f
      clear R_x
      clear R_y
      obtain ⟨W6, b6⟩ := pq6
      dsimp only
      replace r_f := keepB b6 r_f
      replace r_x := keepB b6 r_x
      replace r_y := keepB b6 r_y
      replace HB := hide (HB.out.trans (b6.mono HB.out.size))
      clear b6
      clear k1
      have k2 : ∀ q : BW W6, q.w.cell? ⟨W4.heap.size, 2, none⟩ = some (.int .i64 yl) := fun q => (cell_of_row q.w _ 2 _ _ (0, 0) (q.block r_y)).trans rfl
      go_upto_region 8 with (fail)
      have R_f : ∀ q : BW W6, q.w.heap[w.heap.size]? = some (.cells #[.int .i64 p, .int .i64 s, .int .i64 l] 23 (0, 0)) := fun q => q.block r_f
      have R_x : ∀ q : BW W6, q.w.heap[W2.heap.size]? = some (.cells #[.int .i64 p, .int .i64 s, .int .i64 l] 24 (0, 0)) := fun q => q.block r_x
      have R_y : ∀ q : BW W6, q.w.heap[W4.heap.size]? = some (.cells #[.int .i64 yp, .int .i64 ys, .int .i64 yl] 24 (0, 0)) := fun q => q.block r_y
      first | refine wp_region_belowS W6 (Below.refl _ _) ?_ | refine wp_region_below W6 (Below.refl _ _) (by kernel_rfl) (by kernel_rfl) ?_
      (try simp only [List.append_eq, List.cons_append, List.nil_append])
      repeat
        first
        | (go_big_quiet_step (first
          | (go_at_call 20; with_reducible exact Calls.bel (KEy.out _))
          | (go_at_call 20; with_reducible exact Calls.bel (KE.out _))
          | (go_at_call 16; with_reducible exact Calls.bel (KRy.out _))
          | (go_at_call 23; with_reducible exact Calls.bel (KK.out _))
          | fail))
        | (go_big_quiet_want; apply quiet_span; (intro p; go_simp; rfl); (try simp only [Act.put, List.setIfInBounds_toArray, List.set_cons_zero, List.set_cons_succ]); go_big_quiet_on)
      refine wpQuiet_nil ?_
      intro _ hw'
      obtain ⟨pq7, hw''⟩ := hw'
      subst hw''
      clear R_f
      clear R_x
      clear R_y
      obtain ⟨W7, b7⟩ := pq7
      dsimp only
      replace r_f := keepB b7 r_f
      replace r_x := keepB b7 r_x
      replace r_y := keepB b7 r_y
      replace HB := hide (HB.out.trans (b7.mono HB.out.size))
      clear b7
      go_wp2
      go_ret
      exact ⟨rfl, HB.out⟩
    · have hy : (Ey == 0) = false := by simpa using h5
      have hz : decide (Ey ≥ E) = true := by simpa using h6
      clear h5 h6
      have HB := hide (Below.refl w.heap.size w)
      obtain ⟨W1, hW1, r_f, z1, b1⟩ := alloc_nm w (.cells #[.int .i64 p, .int .i64 s, .int .i64 l] 23)
      clear z1
      replace HB := hide (HB.out.trans (b1.mono HB.out.size))
      clear b1
      go_enter Try.func6, Try.ntmps6
      go_wp2_with fail
      go_at_call 11
      with_reducible refine (KG.out _).mono ?_
      rintro e W2 ⟨rfl, b2⟩
      replace r_f := keepB b2 r_f
      replace HB := hide (HB.out.trans (b2.mono HB.out.size))
      clear b2
      dsimp only
      obtain ⟨W3, hW3, r_x, z3, b3⟩ := alloc_nm W2 (.cells #[.int .i64 p, .int .i64 s, .int .i64 l] 24)
      clear z3
      replace r_f := keepB b3 r_f
      replace HB := hide (HB.out.trans (b3.mono HB.out.size))
      clear b3
      go_wp2_with fail
      go_at_call 14
      with_reducible refine (KS.out _).mono ?_
      rintro e W4 ⟨rfl, b4⟩
      replace r_f := keepB b4 r_f
      replace r_x := keepB b4 r_x
      replace HB := hide (HB.out.trans (b4.mono HB.out.size))
      clear b4
      dsimp only
      obtain ⟨W5, hW5, r_y, z5, b5⟩ := alloc_nm W4 (.cells #[.int .i64 yp, .int .i64 ys, .int .i64 yl] 24)
      clear z5
      replace r_f := keepB b5 r_f
      replace r_x := keepB b5 r_x
      replace HB := hide (HB.out.trans (b5.mono HB.out.size))
      clear b5
      have k1 : ∀ q : BW W5, q.w.cell? ⟨w.heap.size, 1, none⟩ = some (.int .i64 s) := fun q => (cell_of_row q.w _ 1 _ _ (0, 0) (q.block r_f)).trans rfl
      go_upto_region 3 with (fail)
      have R_f : ∀ q : BW W5, q.w.heap[w.heap.size]? = some (.cells #[.int .i64 p, .int .i64 s, .int .i64 l] 23 (0, 0)) := fun q => q.block r_f
      have R_x : ∀ q : BW W5, q.w.heap[W2.heap.size]? = some (.cells #[.int .i64 p, .int .i64 s, .int .i64 l] 24 (0, 0)) := fun q => q.block r_x
      have R_y : ∀ q : BW W5, q.w.heap[W4.heap.size]? = some (.cells #[.int .i64 yp, .int .i64 ys, .int .i64 yl] 24 (0, 0)) := fun q => q.block r_y
      first | refine wp_region_belowS W5 (Below.refl _ _) ?_ | refine wp_region_below W5 (Below.refl _ _) (by kernel_rfl) (by kernel_rfl) ?_
      (try simp only [List.append_eq, List.cons_append, List.nil_append])
      repeat
        first
        | (go_big_quiet_step (first
          | (go_at_call 18; with_reducible exact Calls.bel (KL.out _))
          | fail))
        | (go_big_quiet_want; apply quiet_span; (intro p; go_simp; rfl); (try simp only [Act.put, List.setIfInBounds_toArray, List.set_cons_zero, List.set_cons_succ]); go_big_quiet_on)
      refine wpQuiet_nil ?_
      intro _ hw'
      obtain ⟨pq6, hw''⟩ := hw'
      subst hw''
      clear R_f
      clear R_x
      clear R_y
      obtain ⟨W6, b6⟩ := pq6
      dsimp only
      replace r_f := keepB b6 r_f
      replace r_x := keepB b6 r_x
      replace r_y := keepB b6 r_y
      replace HB := hide (HB.out.trans (b6.mono HB.out.size))
      clear b6
      clear k1
      have k2 : ∀ q : BW W6, q.w.cell? ⟨W4.heap.size, 2, none⟩ = some (.int .i64 yl) := fun q => (cell_of_row q.w _ 2 _ _ (0, 0) (q.block r_y)).trans rfl
      go_upto_region 8 with (fail)
      have R_f : ∀ q : BW W6, q.w.heap[w.heap.size]? = some (.cells #[.int .i64 p, .int .i64 s, .int .i64 l] 23 (0, 0)) := fun q => q.block r_f
      have R_x : ∀ q : BW W6, q.w.heap[W2.heap.size]? = some (.cells #[.int .i64 p, .int .i64 s, .int .i64 l] 24 (0, 0)) := fun q => q.block r_x
      have R_y : ∀ q : BW W6, q.w.heap[W4.heap.size]? = some (.cells #[.int .i64 yp, .int .i64 ys, .int .i64 yl] 24 (0, 0)) := fun q => q.block r_y
      first | refine wp_region_belowS W6 (Below.refl _ _) ?_ | refine wp_region_below W6 (Below.refl _ _) (by kernel_rfl) (by kernel_rfl) ?_
      (try simp only [List.append_eq, List.cons_append, List.nil_append])
      repeat
        first
        | (go_big_quiet_step (first
          | (go_at_call 20; with_reducible exact Calls.bel (KEy.out _))
          | (go_at_call 20; with_reducible exact Calls.bel (KE.out _))
          | (go_at_call 16; with_reducible exact Calls.bel (KRy.out _))
          | (go_at_call 23; with_reducible exact Calls.bel (KK.out _))
          | fail))
        | (go_big_quiet_want; apply quiet_span; (intro p; go_simp; rfl); (try simp only [Act.put, List.setIfInBounds_toArray, List.set_cons_zero, List.set_cons_succ]); go_big_quiet_on)
      refine wpQuiet_nil ?_
      intro _ hw'
      obtain ⟨pq7, hw''⟩ := hw'
      subst hw''
      clear R_f
      clear R_x
      clear R_y
      obtain ⟨W7, b7⟩ := pq7
      dsimp only
      replace r_f := keepB b7 r_f
      replace r_x := keepB b7 r_x
      replace r_y := keepB b7 r_y
      replace HB := hide (HB.out.trans (b7.mono HB.out.size))
      clear b7
      go_wp2
      go_ret
      exact ⟨rfl, HB.out⟩
  · have he : (e != 0) = true := by simpa using h1
    have he2 : (e == 0) = false := by simpa using h1
    clear HC
    simp only [Flw.mk.injEq] at h2
    obtain ⟨rfl, rfl, rfl⟩ := h2
    have EQ1 : ∀ W, (binOp .eql 23 (.agg #[.int .i64 0, .int .i64 0, .int .i64 0]) (.agg #[.int .i64 0, .int .i64 0, .int .i64 0])).run Try.prog W = .ok (.bool true) W := fun W => EQ.out W
    clear h1
    by_cases h3 : s = 3
    · subst h3
      have hl := H0.out (.inr rfl)
      rw [hl] at KL
      clear hl H0
      have HB := hide (Below.refl w.heap.size w)
      obtain ⟨W1, hW1, r_f, z1, b1⟩ := alloc_nm w (.cells #[.int .i64 p, .int .i64 3, .int .i64 l] 23)
      clear z1
      replace HB := hide (HB.out.trans (b1.mono HB.out.size))
      clear b1
      go_enter Try.func6, Try.ntmps6
      go_wp2_with fail
      go_at_call 11
      with_reducible refine (KG.out _).mono ?_
      rintro e W2 ⟨rfl, b2⟩
      replace r_f := keepB b2 r_f
      replace HB := hide (HB.out.trans (b2.mono HB.out.size))
      clear b2
      dsimp only
      obtain ⟨W3, hW3, r_x, z3, b3⟩ := alloc_nm W2 (.cells #[.int .i64 p, .int .i64 3, .int .i64 l] 24)
      clear z3
      replace r_f := keepB b3 r_f
      replace HB := hide (HB.out.trans (b3.mono HB.out.size))
      clear b3
      go_wp2_with fail
      go_at_call 14
      with_reducible refine (KS.out _).mono ?_
      rintro e W4 ⟨rfl, b4⟩
      replace r_f := keepB b4 r_f
      replace r_x := keepB b4 r_x
      replace HB := hide (HB.out.trans (b4.mono HB.out.size))
      clear b4
      dsimp only
      obtain ⟨W5, hW5, r_y, z5, b5⟩ := alloc_nm W4 (.cells #[.int .i64 0, .int .i64 0, .int .i64 0] 24)
      clear z5
      have hS5 : W5.setRow W4.heap.size #[.int .i64 0, .int .i64 0, .int .i64 0] = W5 := by rw [← hW5, World.setRow_alloc_new]
      replace r_f := keepB b5 r_f
      replace r_x := keepB b5 r_x
      replace HB := hide (HB.out.trans (b5.mono HB.out.size))
      clear b5
      have k1 : ∀ q : BW W5, q.w.cell? ⟨w.heap.size, 1, none⟩ = some (.int .i64 3) := fun q => (cell_of_row q.w _ 1 _ _ (0, 0) (q.block r_f)).trans rfl
      go_upto_region 3 with (fail)
      have R_f : ∀ q : BW W5, q.w.heap[w.heap.size]? = some (.cells #[.int .i64 p, .int .i64 3, .int .i64 l] 23 (0, 0)) := fun q => q.block r_f
      have R_x : ∀ q : BW W5, q.w.heap[W2.heap.size]? = some (.cells #[.int .i64 p, .int .i64 3, .int .i64 l] 24 (0, 0)) := fun q => q.block r_x
      have R_y : ∀ q : BW W5, q.w.heap[W4.heap.size]? = some (.cells #[.int .i64 0, .int .i64 0, .int .i64 0] 24 (0, 0)) := fun q => q.block r_y
      first | refine wp_region_belowS W5 (Below.refl _ _) ?_ | refine wp_region_below W5 (Below.refl _ _) (by kernel_rfl) (by kernel_rfl) ?_
      (try simp only [List.append_eq, List.cons_append, List.nil_append])
      repeat
        first
        | (go_big_quiet_step (first
          | (go_at_call 18; with_reducible exact Calls.bel (KL.out _))
          | fail))
        | (go_big_quiet_want; apply quiet_span; (intro p; go_simp; rfl); (try simp only [Act.put, List.setIfInBounds_toArray, List.set_cons_zero, List.set_cons_succ]); go_big_quiet_on)
      refine wpQuiet_nil ?_
      intro _ hw'
      obtain ⟨pq6, hw''⟩ := hw'
      subst hw''
      clear R_f
      clear R_x
      clear R_y
      obtain ⟨W6, b6⟩ := pq6
      dsimp only
      replace r_f := keepB b6 r_f
      replace r_x := keepB b6 r_x
      replace r_y := keepB b6 r_y
      replace HB := hide (HB.out.trans (b6.mono HB.out.size))
      clear b6
      clear k1
      obtain ⟨W7, hW7, r_n, z7, b7⟩ := alloc_nm W6 (.cells #[.int .i64 0, .int .i64 0, .int .i64 0] 23)
      clear z7
      have hS7 : W7.setRow W6.heap.size #[.int .i64 0, .int .i64 0, .int .i64 0] = W7 := by rw [← hW7, World.setRow_alloc_new]
      replace r_f := keepB b7 r_f
      replace r_x := keepB b7 r_x
      replace r_y := keepB b7 r_y
      replace HB := hide (HB.out.trans (b7.mono HB.out.size))
      clear b7
      go_upto_region 7 with (fail)
      have R_f : ∀ q : BW W7, q.w.heap[w.heap.size]? = some (.cells #[.int .i64 p, .int .i64 3, .int .i64 l] 23 (0, 0)) := fun q => q.block r_f
      have R_x : ∀ q : BW W7, q.w.heap[W2.heap.size]? = some (.cells #[.int .i64 p, .int .i64 3, .int .i64 l] 24 (0, 0)) := fun q => q.block r_x
      have R_y : ∀ q : BW W7, q.w.heap[W4.heap.size]? = some (.cells #[.int .i64 0, .int .i64 0, .int .i64 0] 24 (0, 0)) := fun q => q.block r_y
      have R_n : ∀ q : BW W7, q.w.heap[W6.heap.size]? = some (.cells #[.int .i64 0, .int .i64 0, .int .i64 0] 23 (0, 0)) := fun q => q.block r_n
      first | refine wp_region_belowS W7 (Below.refl _ _) ?_ | refine wp_region_below W7 (Below.refl _ _) (by kernel_rfl) (by kernel_rfl) ?_
      (try simp only [List.append_eq, List.cons_append, List.nil_append])
      repeat
        first
        | (go_big_quiet_step (first
          | (go_at_call 22; with_reducible exact Calls.bel (KT.out _))
          | (go_at_call 23; with_reducible exact Calls.bel (KK.out _))
          | fail))
        | (go_big_quiet_want; apply quiet_span; (intro p; go_simp; rfl); (try simp only [Act.put, List.setIfInBounds_toArray, List.set_cons_zero, List.set_cons_succ]); go_big_quiet_on)
      refine wpQuiet_nil ?_
      intro _ hw'
      obtain ⟨pq8, hw''⟩ := hw'
      subst hw''
      clear R_f
      clear R_x
      clear R_y
      clear R_n
      obtain ⟨W8, b8⟩ := pq8
      dsimp only
      replace r_f := keepB b8 r_f
      replace r_x := keepB b8 r_x
      replace r_y := keepB b8 r_y
      replace r_n := keepB b8 r_n
      replace HB := hide (HB.out.trans (b8.mono HB.out.size))
      clear b8
      go_wp2
      go_ret
      exact ⟨rfl, HB.out⟩
    · have hs : (s == 3) = false := by simpa using h3
      clear h3 H0
      have HB := hide (Below.refl w.heap.size w)
      obtain ⟨W1, hW1, r_f, z1, b1⟩ := alloc_nm w (.cells #[.int .i64 p, .int .i64 s, .int .i64 l] 23)
      clear z1
      replace HB := hide (HB.out.trans (b1.mono HB.out.size))
      clear b1
      go_enter Try.func6, Try.ntmps6
      go_wp2_with fail
      go_at_call 11
      with_reducible refine (KG.out _).mono ?_
      rintro e W2 ⟨rfl, b2⟩
      replace r_f := keepB b2 r_f
      replace HB := hide (HB.out.trans (b2.mono HB.out.size))
      clear b2
      dsimp only
      obtain ⟨W3, hW3, r_x, z3, b3⟩ := alloc_nm W2 (.cells #[.int .i64 p, .int .i64 s, .int .i64 l] 24)
      clear z3
      replace r_f := keepB b3 r_f
      replace HB := hide (HB.out.trans (b3.mono HB.out.size))
      clear b3
      go_wp2_with fail
      go_at_call 14
      with_reducible refine (KS.out _).mono ?_
      rintro e W4 ⟨rfl, b4⟩
      replace r_f := keepB b4 r_f
      replace r_x := keepB b4 r_x
      replace HB := hide (HB.out.trans (b4.mono HB.out.size))
      clear b4
      dsimp only
      obtain ⟨W5, hW5, r_y, z5, b5⟩ := alloc_nm W4 (.cells #[.int .i64 0, .int .i64 0, .int .i64 0] 24)
      clear z5
      have hS5 : W5.setRow W4.heap.size #[.int .i64 0, .int .i64 0, .int .i64 0] = W5 := by rw [← hW5, World.setRow_alloc_new]
      replace r_f := keepB b5 r_f
      replace r_x := keepB b5 r_x
      replace HB := hide (HB.out.trans (b5.mono HB.out.size))
      clear b5
      have k1 : ∀ q : BW W5, q.w.cell? ⟨w.heap.size, 1, none⟩ = some (.int .i64 s) := fun q => (cell_of_row q.w _ 1 _ _ (0, 0) (q.block r_f)).trans rfl
      go_upto_region 3 with (fail)
      have R_f : ∀ q : BW W5, q.w.heap[w.heap.size]? = some (.cells #[.int .i64 p, .int .i64 s, .int .i64 l] 23 (0, 0)) := fun q => q.block r_f
      have R_x : ∀ q : BW W5, q.w.heap[W2.heap.size]? = some (.cells #[.int .i64 p, .int .i64 s, .int .i64 l] 24 (0, 0)) := fun q => q.block r_x
      have R_y : ∀ q : BW W5, q.w.heap[W4.heap.size]? = some (.cells #[.int .i64 0, .int .i64 0, .int .i64 0] 24 (0, 0)) := fun q => q.block r_y
      first | refine wp_region_belowS W5 (Below.refl _ _) ?_ | refine wp_region_below W5 (Below.refl _ _) (by kernel_rfl) (by kernel_rfl) ?_
      (try simp only [List.append_eq, List.cons_append, List.nil_append])
      repeat
        first
        | (go_big_quiet_step (first
          | (go_at_call 18; with_reducible exact Calls.bel (KL.out _))
          | fail))
        | (go_big_quiet_want; apply quiet_span; (intro p; go_simp; rfl); (try simp only [Act.put, List.setIfInBounds_toArray, List.set_cons_zero, List.set_cons_succ]); go_big_quiet_on)
      refine wpQuiet_nil ?_
      intro _ hw'
      obtain ⟨pq6, hw''⟩ := hw'
      subst hw''
      clear R_f
      clear R_x
      clear R_y
      obtain ⟨W6, b6⟩ := pq6
      dsimp only
      replace r_f := keepB b6 r_f
      replace r_x := keepB b6 r_x
      replace r_y := keepB b6 r_y
      replace HB := hide (HB.out.trans (b6.mono HB.out.size))
      clear b6
      clear k1
      obtain ⟨W7, hW7, r_n, z7, b7⟩ := alloc_nm W6 (.cells #[.int .i64 0, .int .i64 0, .int .i64 0] 23)
      clear z7
      have hS7 : W7.setRow W6.heap.size #[.int .i64 0, .int .i64 0, .int .i64 0] = W7 := by rw [← hW7, World.setRow_alloc_new]
      replace r_f := keepB b7 r_f
      replace r_x := keepB b7 r_x
      replace r_y := keepB b7 r_y
      replace HB := hide (HB.out.trans (b7.mono HB.out.size))
      clear b7
      go_upto_region 7 with (fail)
      have R_f : ∀ q : BW W7, q.w.heap[w.heap.size]? = some (.cells #[.int .i64 p, .int .i64 s, .int .i64 l] 23 (0, 0)) := fun q => q.block r_f
      have R_x : ∀ q : BW W7, q.w.heap[W2.heap.size]? = some (.cells #[.int .i64 p, .int .i64 s, .int .i64 l] 24 (0, 0)) := fun q => q.block r_x
      have R_y : ∀ q : BW W7, q.w.heap[W4.heap.size]? = some (.cells #[.int .i64 0, .int .i64 0, .int .i64 0] 24 (0, 0)) := fun q => q.block r_y
      have R_n : ∀ q : BW W7, q.w.heap[W6.heap.size]? = some (.cells #[.int .i64 0, .int .i64 0, .int .i64 0] 23 (0, 0)) := fun q => q.block r_n
      first | refine wp_region_belowS W7 (Below.refl _ _) ?_ | refine wp_region_below W7 (Below.refl _ _) (by kernel_rfl) (by kernel_rfl) ?_
      (try simp only [List.append_eq, List.cons_append, List.nil_append])
      repeat
        first
        | (go_big_quiet_step (first
          | (go_at_call 22; with_reducible exact Calls.bel (KT.out _))
          | (go_at_call 23; with_reducible exact Calls.bel (KK.out _))
          | fail))
        | (go_big_quiet_want; apply quiet_span; (intro p; go_simp; rfl); (try simp only [Act.put, List.setIfInBounds_toArray, List.set_cons_zero, List.set_cons_succ]); go_big_quiet_on)
      refine wpQuiet_nil ?_
      intro _ hw'
      obtain ⟨pq8, hw''⟩ := hw'
      subst hw''
      clear R_f
      clear R_x
      clear R_y
      clear R_n
      obtain ⟨W8, b8⟩ := pq8
      dsimp only
      replace r_f := keepB b8 r_f
      replace r_x := keepB b8 r_x
      replace r_y := keepB b8 r_y
      replace r_n := keepB b8 r_n
      replace HB := hide (HB.out.trans (b8.mono HB.out.size))
      clear b8
      go_wp2
      go_ret
      exact ⟨rfl, HB.out⟩
end Go.Proofs.Ytbkipfmnbfjkcaa
