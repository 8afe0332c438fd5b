/-
  What must come of fixed calls: known.
-/
import Derived.Test.YtpbgbfmpjgkllaaMs
namespace Go.Proofs.Ytpbgbfmpjgkllaa
open Go.RowKit
set_option maxRecDepth 100000
set_option linter.unusedVariables false
set_option linter.unusedSimpArgs false
attribute [local go_sem ↓] exec_span exec_put exec_build heap_alloc_new heap_old
attribute [local go_sem] spanQ_ptr spanC_some heap_of_drew heap_of_drewN putAt_ptr putOk_ptr oldOk_some World.setRow_alloc_new rs_inf rs_view

theorem built_inf1 (s : Int) : Try.prog.built 24 [(0, .int .i64 s)] = some #[.int .i64 s, .int .i64 0] := by kernel_rfl
theorem m_new : newOk 0 3 = true := by decide
theorem m_h1 : hearR [(0, 0), (0, 0), (0, 0)] 0 0 (1, 0) = (true, 0, [(0, 1), (0, 0), (0, 0)]) := by decide
theorem m_h2 : hearR [(0, 1), (0, 0), (0, 0)] 0 1 (2, 0) = (true, 0, [(0, 1), (2, 0), (0, 0)]) := by decide
theorem m_h3 : hearR [(0, 1), (2, 0), (0, 0)] 0 1 (0, 1) = (true, 0, [(0, 1), (0, 1), (0, 0)]) := by decide
theorem m_live : (liveL [(0, 1), (2, 0), (0, 0)]).length = 2 := by decide
theorem m_g0 : getV [(0, 1), (0, 1), (0, 0)] 0 = (0, 1) := by decide
theorem m_g1 : getV [(0, 1), (0, 1), (0, 0)] 1 = (0, 1) := by decide
theorem m_has (l : List (Int × Int)) (h : l.length = 3) : hasV l 0 = true := by unfold hasV; rw [h]; decide
/-- a call that turns one map. -/
theorem TurnP.parts {w : World} {g b : Nat} {me : Int} {l' : List (Int × Int)} {v : Value} {e : Ending} {w' : World} (h : TurnP w g b me l' v e w') : e = .returned v ∧ ViewS w' g b me l' ∧ w.grownBy w' (some b) := h
theorem below_turn {w0 w w' : World} {b : Nat} (h : Below w0.heap.size w0 w) (hg : w.grownBy w' (some b)) (hb : w0.heap.size ≤ b) : Below w0.heap.size w0 w' := h.grown hg h.size (fun k e => by cases e; exact hb)
set_option maxHeartbeats 8000000 in
theorem knownM_any (w : World) : Calls Try.prog 14 #[] w (RetV w (.bool true)) := by
  have hb1 := built_inf1 1
  have hb2 := built_inf1 2
  have hb3 := built_inf2 0 1
  have hf0 := fun w => field0_inf w 0 1
  have hf1 := fun w => field1_inf w 0 1
  go_enter Try.func14, Try.ntmps14
  go_wp2_with fail
  refine (newV_any w 0 3).mono ?_
  rintro e w1 ⟨hbel, ⟨hno, -⟩ | ⟨-, g, b, rfl, hg, hb, hv⟩⟩
  · rw [m_new] at hno; cases hno
  have HB := hide hbel
  have HV := hide (show ViewS w1 g b 0 [(0, 0), (0, 0), (0, 0)] from hv)
  have HG := hide hb
  clear hbel hv hg hb
  dsimp only
  have KH := hearV_any w1 g b 0 _ 0 (1, 0) HV.out (m_has _ rfl)
  rw [m_h1] at KH
  unfold infV infA at KH
  go_wp2_with fail
  refine KH.mono ?_
  rintro e w2 ⟨rfl, hv, hg⟩
  clear KH
  replace HB := hide (below_turn HB.out hg HG.out)
  replace HV := hide hv
  clear hv hg
  dsimp only at HV ⊢
  have KH := hearV_any w2 g b 0 _ 1 (2, 0) HV.out (m_has _ rfl)
  rw [m_h2] at KH
  unfold infV infA at KH
  go_wp2_with fail
  refine KH.mono ?_
  rintro e w3 ⟨rfl, hv, hg⟩
  clear KH
  replace HB := hide (below_turn HB.out hg HG.out)
  replace HV := hide hv
  clear hv hg
  dsimp only at HV ⊢
  have KL := liveV_any w3 g b 0 _ HV.out (by decide)
  rw [m_live] at KL
  go_wp2_with fail
  refine KL.mono ?_
  rintro e w4 ⟨A, c, T, rfl, rfl, -, -, hbel⟩
  clear KL
  replace HV := hide (HV.out.below hbel (Nat.le_refl _))
  replace HB := hide (HB.out.trans (hbel.mono HB.out.size))
  clear hbel
  dsimp only
  have KH := hearV_any w4 g b 0 _ 1 (0, 1) HV.out (m_has _ rfl)
  rw [m_h3] at KH
  unfold infV infA at KH
  go_wp2_with fail
  refine KH.mono ?_
  rintro e w5 ⟨rfl, hv, hg⟩
  clear KH
  replace HB := hide (below_turn HB.out hg HG.out)
  replace HV := hide hv
  clear hv hg
  dsimp only at HV ⊢
  have G0 := hide (fun p : BW w5 => (by
    have := getV_any p.w g b 0 _ 0 (HV.out.bw p)
    rw [m_g0] at this
    exact this : Calls Try.prog 27 #[.pointer (some ⟨g, 0, none⟩), .int .i64 0] p.w (RetV p.w (.agg #[.int .i64 0, .int .i64 1]))))
  have G1 := hide (fun p : BW w5 => (by
    have := getV_any p.w g b 0 _ 1 (HV.out.bw p)
    rw [m_g1] at this
    exact this : Calls Try.prog 27 #[.pointer (some ⟨g, 0, none⟩), .int .i64 1] p.w (RetV p.w (.agg #[.int .i64 0, .int .i64 1]))))
  go_upto_region 8 with (fail)
  first | refine wp_region_belowS w5 (Below.refl _ _) ?_ | refine wp_region_below w5 (Below.refl _ _) (by kernel_rfl) (by kernel_rfl) ?_
  repeat
    first
    | (go_big_quiet_want; apply quiet_field; (intro w; first | exact field1_inf _ _ _ | exact field0_inf _ _ _); (try simp only [Act.put, List.setIfInBounds_toArray, List.set_cons_zero, List.set_cons_succ]); go_big_quiet_on)
    | (go_big_quiet_step (first
    | ((go_at_call 27; with_reducible exact Calls.bel (G0.out _)))
    | ((go_at_call 27; with_reducible exact Calls.bel (G1.out _)))
    | fail))
    | (go_big_quiet_want; apply quiet_span; (intro p; go_simp; rfl); (try simp only [Act.put, List.setIfInBounds_toArray, List.set_cons_zero, List.set_cons_succ]); go_big_quiet_on)
  refine wpQuiet_nil ?_
  intro _ hw'
  obtain ⟨pq, hw''⟩ := hw'
  subst hw''
  go_wp2
  go_ret
  exact ⟨rfl, HB.out.trans (pq.below.mono HB.out.size)⟩
end Go.Proofs.Ytpbgbfmpjgkllaa
