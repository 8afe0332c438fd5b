/-
  Flows: as the laws have them; what must come of fixed calls; the walk of FlowSteps.
-/
import Derived.Test.YtbkipfmnbfjkcaaVg
import Derived.Laws.StructEq
namespace Go.Proofs.Ytbkipfmnbfjkcaa
open Go.RowKit
set_option maxRecDepth 100000
set_option linter.unusedVariables false
set_option linter.unusedSimpArgs false
attribute [local go_sem ↓] exec_span exec_put exec_build heap_alloc_new heap_old
attribute [local go_sem] spanQ_ptr spanC_some heap_of_drew heap_of_drewN putAt_ptr putOk_ptr oldOk_some World.setRow_alloc_new rs_Flow rs_RFlow built_flow0 built_rflow0 built_flow2 built_flow3 built_rflow3
theorem keepB {w w' : World} {g : Nat} {o : Obj} (hb : Below w.heap.size w w') (h : w.heap[g]? = some o) : w'.heap[g]? = some o := BW.block ⟨w', hb⟩ h
set_option maxHeartbeats 1000000 in
theorem given19_any (w : World) (f : Flw) : Calls Try.prog 11 #[flV f] w (RetV w (flV f)) := by
  obtain ⟨p, s, l⟩ := f
  obtain ⟨W, hW, r1, r2, hz, hb⟩ := two_newV w #[.int .i64 p, .int .i64 s, .int .i64 l] #[.int .i64 p, .int .i64 s, .int .i64 l] 23 24
  have C3 := cells3
  have HB := hide hb
  have HR := hide r2
  clear hb hz
  unfold flV flA
  go_enter Try.func11, Try.ntmps11
  go_wp2
  refine bodyPost_ret (results_cell_row (fn := Try.f11) Try.results11 _ _ (w.heap.size + 1) 24 #[.int .i64 p, .int .i64 s, .int .i64 l] (0, 0) _ rfl ?_ Try.underlying24 rfl info_flow) rfl ?_
  · first | exact HR.out | (exact heap_alloc2_new _ _ _)
  · exact ⟨rfl, by first | exact HB.out | exact ((Below.refl _ _).alloc (Nat.le_refl _) _).alloc (by simp) _⟩
set_option maxHeartbeats 1000000 in
theorem taken19_any (w : World) (f : Flw) : Calls Try.prog 22 #[flV f] w (RetV w (flV f)) := by
  obtain ⟨p, s, l⟩ := f
  obtain ⟨W, hW, r1, r2, hz, hb⟩ := two_newV w #[.int .i64 p, .int .i64 s, .int .i64 l] #[.int .i64 p, .int .i64 s, .int .i64 l] 24 23
  have C3 := cells3
  have HB := hide hb
  have HR := hide r2
  clear hb hz
  unfold flV flA
  go_enter Try.func22, Try.ntmps22
  go_wp2
  refine bodyPost_ret (results_cell_row (fn := Try.f22) Try.results22 _ _ (w.heap.size + 1) 23 #[.int .i64 p, .int .i64 s, .int .i64 l] (0, 0) _ rfl ?_ Try.underlying23 rfl info_rflow) rfl ?_
  · first | exact HR.out | (exact heap_alloc2_new _ _ _)
  · exact ⟨rfl, by first | exact HB.out | exact ((Below.refl _ _).alloc (Nat.le_refl _) _).alloc (by simp) _⟩
theorem rf_fields : (Try.prog.fieldsOf 23).toList.map (fun f => (f.type, f.offset, f.name)) = [(3, 0, "Proto"), (3, 1, "State"), (2, 2, "Last")] := by kernel_rfl
theorem rf_under : Try.prog.underlying 23 = some (.struct (Try.prog.fieldsOf 23)) := by kernel_rfl
theorem rf_held : Try.prog.stoodInHeld 23 = false := by kernel_rfl
theorem list_threeV {α β : Type} {g : α → β} {a b c : β} : ∀ {L : List α}, L.map g = [a, b, c] → ∃ x y z, L = [x, y, z] ∧ g x = a ∧ g y = b ∧ g z = c
  | [x, y, z], h => by simp at h; exact ⟨x, y, z, rfl, h⟩
  | [], h => by simp at h
  | [_], h => by simp at h
  | [_, _], h => by simp at h
  | _ :: _ :: _ :: _ :: _, h => by simp at h
theorem pt_intV (t : TypeId) (q : IntKind) (ht : Try.prog.underlying t = some (.int q)) (X : Array Value) (o : Nat) (n : Int) (h0 : X[o]? = some (.int .i64 n)) (w : World) : (part t X o).run Try.prog w = .ok (.int .i64 n) w := by
  simp [part, isAgg, run_underlying ht, h0]
theorem equalIn_rflow (d : Nat) (w : World) (f g : Flw) : (Op.equalIn (d + 5) 23 (flV f) (flV g)).run Try.prog w = .ok (f.p == g.p && (f.s == g.s && f.l == g.l)) w := by
  unfold flV
  rw [run_equalIn_struct w (d + 4) 23 _ _ rf_under rf_held]
  obtain ⟨f0, f1, f2, hfs, e0, e1, e2⟩ := list_threeV rf_fields
  rw [hfs]
  simp only [Prod.mk.injEq] at e0 e1 e2
  obtain ⟨t0, o0, n0⟩ := e0
  obtain ⟨t1, o1, n1⟩ := e1
  obtain ⟨t2, o2, n2⟩ := e2
  simp only [Op.eqFields, t0, o0, n0, t1, o1, n1, t2, o2, n2]
  rw [if_pos (by decide), if_pos (by decide), if_pos (by decide)]
  have E0 := run_equalIn_int (P := Try.prog) w (d + 3) 3 .i64 .i64 f.p g.p Try.underlying3
  have E1 := run_equalIn_int (P := Try.prog) w (d + 3) 3 .i64 .i64 f.s g.s Try.underlying3
  have E2 := run_equalIn_int (P := Try.prog) w (d + 3) 2 .i64 .i64 f.l g.l Try.underlying2
  have a0 := fun f : Flw => pt_intV 3 .i64 Try.underlying3 (flA f) 0 f.p rfl w
  have a1 := fun f : Flw => pt_intV 3 .i64 Try.underlying3 (flA f) 1 f.s rfl w
  have a2 := fun f : Flw => pt_intV 2 .i64 Try.underlying2 (flA f) 2 f.l rfl w
  simp only [Sem.run_bind, a0, Result.andThen_ok, E0]
  cases (f.p == g.p)
  · simp
  · simp only [Bool.not_true, Bool.false_eq_true, if_false, Bool.true_and, Sem.run_bind, a1, Result.andThen_ok, E1]
    cases (f.s == g.s)
    · simp
    · simp only [Bool.not_true, Bool.false_eq_true, if_false, Bool.true_and, Sem.run_bind, a2, Result.andThen_ok, E2]
      cases (f.l == g.l) <;> simp
theorem eql_rflow (w : World) (f : Flw) : (binOp .eql 23 (flV f) (flV f)).run Try.prog w = .ok (.bool true) w := by
  unfold flV
  rw [run_eql_struct]
  have := equalIn_rflow 9995 w f f
  unfold flV at this
  rw [this]
  simp
theorem flA_one (f : Flw) : allOne (flA f) = true := by simp [allOne, flA, Value.oneCell']
theorem flA_x (f : Flw) : (flA f).extract 0 3 = flA f := rfl
theorem flA_size (f : Flw) : (flA f).size = 3 := rfl
set_option maxHeartbeats 8000000 in
theorem known19_any (w : World) : Calls Try.prog 23 #[] w (RetV w (.bool true)) := by
  have KB := hide (fun W => beginF_any W 6 2 5)
  have K1 := hide (fun W => stepF_any W ⟨6, 1, 5⟩ 1 7)
  have K2 := hide (fun W => stepF_any W ⟨6, 2, 7⟩ 16 8)
  have KE := hide (fun W => endF_any W ⟨6, 1, 5⟩)
  have KL := hide (fun W => liveF_any W ⟨6, 3, 8⟩ 8)
  rw [show beginF 6 2 5 = (⟨6, 1, 5⟩, 0) by rfl] at KB
  rw [show stepF ⟨6, 1, 5⟩ 1 7 = (⟨6, 2, 7⟩, 0) by rfl] at K1
  rw [show stepF ⟨6, 2, 7⟩ 16 8 = (⟨6, 3, 8⟩, 0) by rfl] at K2
  rw [show endF ⟨6, 1, 5⟩ = 66 by decide] at KE
  rw [show liveB ⟨6, 3, 8⟩ 8 = false by decide] at KL
  have C3 := cells3
  have X3 := ext3
  unfold flE flV flA at *
  dsimp only at *
  have HB := hide (Below.refl w.heap.size w)
  go_enter Try.func23, Try.ntmps23
  go_wp2_with fail
  go_at_call 12
  with_reducible refine (KB.out _).mono ?_
  rintro e W1 ⟨rfl, b1⟩
  replace HB := hide (HB.out.trans (b1.mono HB.out.size))
  clear b1
  dsimp only
  obtain ⟨W2, hW2, r_a, z2, b2⟩ := alloc_nm W1 (.cells #[.int .i64 6, .int .i64 1, .int .i64 5] 24)
  clear z2
  replace HB := hide (HB.out.trans (b2.mono HB.out.size))
  clear b2
  go_wp2_with fail
  go_at_call 14
  with_reducible refine (K1.out _).mono ?_
  rintro e W3 ⟨rfl, b3⟩
  replace r_a := keepB b3 r_a
  replace HB := hide (HB.out.trans (b3.mono HB.out.size))
  clear b3
  dsimp only
  obtain ⟨W4, hW4, r_g, z4, b4⟩ := alloc_nm W3 (.cells #[.int .i64 6, .int .i64 2, .int .i64 7] 24)
  clear z4
  replace r_a := keepB b4 r_a
  replace HB := hide (HB.out.trans (b4.mono HB.out.size))
  clear b4
  go_wp2_with fail
  go_at_call 14
  with_reducible refine (K2.out _).mono ?_
  rintro e W5 ⟨rfl, b5⟩
  replace r_a := keepB b5 r_a
  replace r_g := keepB b5 r_g
  replace HB := hide (HB.out.trans (b5.mono HB.out.size))
  clear b5
  dsimp only
  obtain ⟨W6, hW6, r_h, z6, b6⟩ := alloc_nm W5 (.cells #[.int .i64 6, .int .i64 3, .int .i64 8] 24)
  clear z6
  replace r_a := keepB b6 r_a
  replace r_g := keepB b6 r_g
  replace HB := hide (HB.out.trans (b6.mono HB.out.size))
  clear b6
  have k_a : ∀ q : BW W6, q.w.cell? ⟨W1.heap.size, 1, none⟩ = some (.int .i64 1) := fun q => (cell_of_row q.w _ 1 _ _ (0, 0) (q.block r_a)).trans rfl
  have k_g : ∀ q : BW W6, q.w.cell? ⟨W3.heap.size, 1, none⟩ = some (.int .i64 2) := fun q => (cell_of_row q.w _ 1 _ _ (0, 0) (q.block r_g)).trans rfl
  have k_h : ∀ q : BW W6, q.w.cell? ⟨W5.heap.size, 1, none⟩ = some (.int .i64 3) := fun q => (cell_of_row q.w _ 1 _ _ (0, 0) (q.block r_h)).trans rfl
  go_upto_region 4 with (fail)
  have R_a : ∀ q : BW W6, q.w.heap[W1.heap.size]? = some (.cells #[.int .i64 6, .int .i64 1, .int .i64 5] 24 (0, 0)) := fun q => q.block r_a
  have R_g : ∀ q : BW W6, q.w.heap[W3.heap.size]? = some (.cells #[.int .i64 6, .int .i64 2, .int .i64 7] 24 (0, 0)) := fun q => q.block r_g
  have R_h : ∀ q : BW W6, q.w.heap[W5.heap.size]? = some (.cells #[.int .i64 6, .int .i64 3, .int .i64 8] 24 (0, 0)) := fun q => q.block r_h
  first | refine wp_region_belowS W6 (Below.refl _ _) ?_ | refine wp_region_below W6 (Below.refl _ _) (by kernel_rfl) (by kernel_rfl) ?_
  (try simp only [List.append_eq, List.cons_append, List.nil_append])
  repeat
    first
    | (go_big_quiet_step (first
      | (go_at_call 20; with_reducible exact Calls.bel (KE.out _))
      | (go_at_call 18; with_reducible exact Calls.bel (KL.out _))
      | fail))
    | (go_big_quiet_want; apply quiet_span; (intro p; go_simp; rfl); (try simp only [Act.put, List.setIfInBounds_toArray, List.set_cons_zero, List.set_cons_succ]); go_big_quiet_on)
  refine wpQuiet_nil ?_
  intro _ hw'
  obtain ⟨pq7, hw''⟩ := hw'
  subst hw''
  clear R_a
  clear R_g
  clear R_h
  obtain ⟨W7, b7⟩ := pq7
  dsimp only
  replace r_a := keepB b7 r_a
  replace r_g := keepB b7 r_g
  replace r_h := keepB b7 r_h
  replace HB := hide (HB.out.trans (b7.mono HB.out.size))
  clear b7
  go_wp2
  go_ret
  exact ⟨rfl, HB.out⟩
set_option maxHeartbeats 16000000 in
theorem flowSteps_any (w : World) (f : Flw) (p fl now : Int) (hnow : now ≤ 9223372036854775807) : Calls Try.prog 3 #[flV f, .int .i64 p, .int .i64 fl, .int .i64 now] w (RetV w (.bool true)) := by
  have KG := hide (fun W => given19_any W f)
  have KT := hide (fun W f => taken19_any W f)
  have KB := hide (fun W => beginF_any W p fl now)
  have KB' := hide (fun W => beginR_any W p fl now)
  have KS := hide (fun W => stepF_any W f fl now)
  have KS' := hide (fun W => stepR_any W f fl now hnow)
  have KR := hide (fun W => rightFlow_any W f)
  have KR' := hide (fun W => rightFlowR_any W f)
  have KL := hide (fun W => liveF_any W f now)
  have KL' := hide (fun W => liveR_any W f now hnow)
  have KE := hide (fun W => endF_any W f)
  have KE' := hide (fun W => endR_any W f)
  have KK := hide (fun W => known19_any W)
  have EQ := hide eql_rflow
  obtain ⟨rb, h1⟩ : ∃ x, x = rightB f := ⟨_, rfl⟩
  obtain ⟨lb, h2⟩ : ∃ x, x = liveB f now := ⟨_, rfl⟩
  obtain ⟨E, h3⟩ : ∃ x, x = endF f := ⟨_, rfl⟩
  obtain ⟨B, h4⟩ : ∃ x, x = beginF p fl now := ⟨_, rfl⟩
  obtain ⟨S, h5⟩ : ∃ x, x = stepF f fl now := ⟨_, rfl⟩
  rw [← h1] at KR KR'
  rw [← h2] at KL KL'
  rw [← h3] at KE KE'
  rw [← h4] at KB KB'
  rw [← h5] at KS KS'
  clear h1 h2 h3 h4 h5 hnow
  obtain ⟨FB, eB⟩ := B
  obtain ⟨FS, eS⟩ := S
  have KTB := hide (fun W => KT.out W FB)
  have KTS := hide (fun W => KT.out W FS)
  have EB : ∀ W, (binOp .eql 23 (flV FB) (flV FB)).run Try.prog W = .ok (.bool true) W := fun W => EQ.out W FB
  have ES : ∀ W, (binOp .eql 23 (flV FS) (flV FS)).run Try.prog W = .ok (.bool true) W := fun W => EQ.out W FS
  have a1 := flA_one f
  have a2 := flA_one FB
  have a3 := flA_one FS
  have x1 := flA_x f
  have x2 := flA_x FB
  have x3 := flA_x FS
  have z1 := flA_size f
  have z2 := flA_size FB
  have z3 := flA_size FS
  unfold flE at *
  unfold flV at *
  dsimp only at *
  generalize flA f = X at *
  generalize flA FB = XB at *
  generalize flA FS = XS at *
  clear EQ KT
  have n1 : (rb != rb) = false := by simp
  have n2 : (lb != lb) = false := by simp
  have n3 : (E != E) = false := by simp
  have n4 : (eB == eB) = true := by simp
  have n5 : (eS == eS) = true := by simp
  have HB := hide (Below.refl w.heap.size w)
  obtain ⟨W1, hW1, r_f, z1, b1⟩ := alloc_nm w (.cells X 23)
  clear z1
  replace HB := hide (HB.out.trans (b1.mono HB.out.size))
  clear b1
  go_enter Try.func3, Try.ntmps3
  go_wp2_with fail
  go_at_call 11
  with_reducible refine (KG.out _).mono ?_
  rintro e W2 ⟨rfl, b2⟩
  replace r_f := keepB b2 r_f
  replace HB := hide (HB.out.trans (b2.mono HB.out.size))
  clear b2
  dsimp only
  obtain ⟨W3, hW3, r_x, z3, b3⟩ := alloc_nm W2 (.cells X 24)
  clear z3
  replace r_f := keepB b3 r_f
  replace HB := hide (HB.out.trans (b3.mono HB.out.size))
  clear b3
  go_wp2_with fail
  go_at_call 12
  with_reducible refine (KB.out _).mono ?_
  rintro e W4 ⟨rfl, b4⟩
  replace r_f := keepB b4 r_f
  replace r_x := keepB b4 r_x
  replace HB := hide (HB.out.trans (b4.mono HB.out.size))
  clear b4
  dsimp only
  obtain ⟨W5, hW5, r_a, z5, b5⟩ := alloc_nm W4 (.cells XB 24)
  clear z5
  replace r_f := keepB b5 r_f
  replace r_x := keepB b5 r_x
  replace HB := hide (HB.out.trans (b5.mono HB.out.size))
  clear b5
  go_wp2_with fail
  go_at_call 13
  with_reducible refine (KB'.out _).mono ?_
  rintro e W6 ⟨rfl, b6⟩
  replace r_f := keepB b6 r_f
  replace r_x := keepB b6 r_x
  replace r_a := keepB b6 r_a
  replace HB := hide (HB.out.trans (b6.mono HB.out.size))
  clear b6
  dsimp only
  obtain ⟨W7, hW7, r_b, z7, b7⟩ := alloc_nm W6 (.cells XB 23)
  clear z7
  replace r_f := keepB b7 r_f
  replace r_x := keepB b7 r_x
  replace r_a := keepB b7 r_a
  replace HB := hide (HB.out.trans (b7.mono HB.out.size))
  clear b7
  go_wp2_with fail
  go_at_call 14
  with_reducible refine (KS.out _).mono ?_
  rintro e W8 ⟨rfl, b8⟩
  replace r_f := keepB b8 r_f
  replace r_x := keepB b8 r_x
  replace r_a := keepB b8 r_a
  replace r_b := keepB b8 r_b
  replace HB := hide (HB.out.trans (b8.mono HB.out.size))
  clear b8
  dsimp only
  obtain ⟨W9, hW9, r_c, z9, b9⟩ := alloc_nm W8 (.cells XS 24)
  clear z9
  replace r_f := keepB b9 r_f
  replace r_x := keepB b9 r_x
  replace r_a := keepB b9 r_a
  replace r_b := keepB b9 r_b
  replace HB := hide (HB.out.trans (b9.mono HB.out.size))
  clear b9
  go_wp2_with fail
  go_at_call 15
  with_reducible refine (KS'.out _).mono ?_
  rintro e W10 ⟨rfl, b10⟩
  replace r_f := keepB b10 r_f
  replace r_x := keepB b10 r_x
  replace r_a := keepB b10 r_a
  replace r_b := keepB b10 r_b
  replace r_c := keepB b10 r_c
  replace HB := hide (HB.out.trans (b10.mono HB.out.size))
  clear b10
  dsimp only
  obtain ⟨W11, hW11, r_d, z11, b11⟩ := alloc_nm W10 (.cells XS 23)
  clear z11
  replace r_f := keepB b11 r_f
  replace r_x := keepB b11 r_x
  replace r_a := keepB b11 r_a
  replace r_b := keepB b11 r_b
  replace r_c := keepB b11 r_c
  replace HB := hide (HB.out.trans (b11.mono HB.out.size))
  clear b11
  go_upto_region 6 with (fail)
  have R_f : ∀ q : BW W11, q.w.heap[w.heap.size]? = some (.cells X 23 (0, 0)) := fun q => q.block r_f
  have R_x : ∀ q : BW W11, q.w.heap[W2.heap.size]? = some (.cells X 24 (0, 0)) := fun q => q.block r_x
  have R_a : ∀ q : BW W11, q.w.heap[W4.heap.size]? = some (.cells XB 24 (0, 0)) := fun q => q.block r_a
  have R_b : ∀ q : BW W11, q.w.heap[W6.heap.size]? = some (.cells XB 23 (0, 0)) := fun q => q.block r_b
  have R_c : ∀ q : BW W11, q.w.heap[W8.heap.size]? = some (.cells XS 24 (0, 0)) := fun q => q.block r_c
  have R_d : ∀ q : BW W11, q.w.heap[W10.heap.size]? = some (.cells XS 23 (0, 0)) := fun q => q.block r_d
  first | refine wp_region_belowS W11 (Below.refl _ _) ?_ | refine wp_region_below W11 (Below.refl _ _) (by kernel_rfl) (by kernel_rfl) ?_
  (try simp only [List.append_eq, List.cons_append, List.nil_append])
  repeat
    first
    | (go_big_quiet_step (first
      | (go_at_call 16; with_reducible exact Calls.bel (KR.out _))
      | (go_at_call 17; with_reducible exact Calls.bel (KR'.out _))
      | (go_at_call 18; with_reducible exact Calls.bel (KL.out _))
      | (go_at_call 19; with_reducible exact Calls.bel (KL'.out _))
      | (go_at_call 20; with_reducible exact Calls.bel (KE.out _))
      | (go_at_call 21; with_reducible exact Calls.bel (KE'.out _))
      | fail))
    | (go_big_quiet_want; apply quiet_span; (intro p; go_simp; rfl); (try simp only [Act.put, List.setIfInBounds_toArray, List.set_cons_zero, List.set_cons_succ]); go_big_quiet_on)
  refine wpQuiet_nil ?_
  intro _ hw'
  obtain ⟨pq12, hw''⟩ := hw'
  subst hw''
  clear R_f
  clear R_x
  clear R_a
  clear R_b
  clear R_c
  clear R_d
  obtain ⟨W12, b12⟩ := pq12
  dsimp only
  replace r_f := keepB b12 r_f
  replace r_x := keepB b12 r_x
  replace r_a := keepB b12 r_a
  replace r_b := keepB b12 r_b
  replace r_c := keepB b12 r_c
  replace r_d := keepB b12 r_d
  replace HB := hide (HB.out.trans (b12.mono HB.out.size))
  clear b12
  go_upto_region 8 with (fail)
  have R_f : ∀ q : BW W12, q.w.heap[w.heap.size]? = some (.cells X 23 (0, 0)) := fun q => q.block r_f
  have R_x : ∀ q : BW W12, q.w.heap[W2.heap.size]? = some (.cells X 24 (0, 0)) := fun q => q.block r_x
  have R_a : ∀ q : BW W12, q.w.heap[W4.heap.size]? = some (.cells XB 24 (0, 0)) := fun q => q.block r_a
  have R_b : ∀ q : BW W12, q.w.heap[W6.heap.size]? = some (.cells XB 23 (0, 0)) := fun q => q.block r_b
  have R_c : ∀ q : BW W12, q.w.heap[W8.heap.size]? = some (.cells XS 24 (0, 0)) := fun q => q.block r_c
  have R_d : ∀ q : BW W12, q.w.heap[W10.heap.size]? = some (.cells XS 23 (0, 0)) := fun q => q.block r_d
  first | refine wp_region_belowS W12 (Below.refl _ _) ?_ | refine wp_region_below W12 (Below.refl _ _) (by kernel_rfl) (by kernel_rfl) ?_
  (try simp only [List.append_eq, List.cons_append, List.nil_append])
  repeat
    first
    | (go_big_quiet_step (first
      | (go_at_call 22; with_reducible exact Calls.bel (KTB.out _))
      | (go_at_call 22; with_reducible exact Calls.bel (KTS.out _))
      | (go_at_call 23; with_reducible exact Calls.bel (KK.out _))
      | fail))
    | (go_big_quiet_want; apply quiet_span; (intro p; go_simp; rfl); (try simp only [Act.put, List.setIfInBounds_toArray, List.set_cons_zero, List.set_cons_succ]); go_big_quiet_on)
  refine wpQuiet_nil ?_
  intro _ hw'
  obtain ⟨pq13, hw''⟩ := hw'
  subst hw''
  clear R_f
  clear R_x
  clear R_a
  clear R_b
  clear R_c
  clear R_d
  obtain ⟨W13, b13⟩ := pq13
  dsimp only
  replace r_f := keepB b13 r_f
  replace r_x := keepB b13 r_x
  replace r_a := keepB b13 r_a
  replace r_b := keepB b13 r_b
  replace r_c := keepB b13 r_c
  replace r_d := keepB b13 r_d
  replace HB := hide (HB.out.trans (b13.mono HB.out.size))
  clear b13
  go_wp2
  go_ret
  exact ⟨rfl, HB.out⟩
end Go.Proofs.Ytbkipfmnbfjkcaa
