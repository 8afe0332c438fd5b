/-
  The walk of the statement MemberNewer.
-/
import Derived.Test.YtpbgbfmpjgkllaaMt
import Derived.Laws.StructEq
namespace Go.Proofs.Ytpbgbfmpjgkllaa
open Go.RowKit
set_option maxRecDepth 100000
set_option linter.unusedVariables false
set_option linter.unusedSimpArgs false
attribute [local go_sem ↓] exec_span exec_put exec_build heap_alloc_new heap_old
attribute [local go_sem] spanQ_ptr spanC_some heap_of_drew heap_of_drewN putAt_ptr putOk_ptr oldOk_some World.setRow_alloc_new rs_inf rs_view

theorem rs_rinf : rowSize Try.prog 23 = some 2 := by kernel_rfl
attribute [local go_sem] rs_rinf
theorem newerI_self (a : Int × Int) : newerI a a = false := by unfold newerI; simp
theorem newerI_other {a b : Int × Int} (h : a ≠ b) : newerI b a = !newerI a b := by
  obtain ⟨s, i⟩ := a
  obtain ⟨t, j⟩ := b
  unfold newerI
  rcases Int.lt_trichotomy i j with h1 | h1 | h1
  · simp [h1]; omega
  · subst h1
    have hne : s ≠ t := fun e => h (by rw [e])
    rcases Int.lt_trichotomy s t with h2 | h2 | h2
    · simp [h2]; omega
    · exact absurd h2 hne
    · simp [h2]; omega
  · have : ¬ j > i := by omega
    simp [h1]; omega
theorem newerI_trans {a b c : Int × Int} (h : newerI a b = true) (h' : newerI b c = true) : newerI a c = true := by
  obtain ⟨s, i⟩ := a
  obtain ⟨t, j⟩ := b
  obtain ⟨u, k⟩ := c
  unfold newerI at *
  simp only [Bool.or_eq_true, Bool.and_eq_true, decide_eq_true_eq, beq_iff_eq] at *
  omega
theorem ri_fields : (Try.prog.fieldsOf 23).toList.map (fun f => (f.type, f.offset, f.name)) = [(3, 0, "State"), (2, 1, "Inc")] := by kernel_rfl
theorem ri_under : Try.prog.underlying 23 = some (.struct (Try.prog.fieldsOf 23)) := by kernel_rfl
theorem ri_held : Try.prog.stoodInHeld 23 = false := by kernel_rfl
theorem list_two2 {α β : Type} {g : α → β} {a b : β} : ∀ {L : List α}, L.map g = [a, b] → ∃ x y, L = [x, y] ∧ g x = a ∧ g y = b
  | [x, y], h => by simp at h; exact ⟨x, y, rfl, h⟩
  | [], h => by simp at h
  | [_], h => by simp at h
  | _ :: _ :: _ :: _, h => by simp at h
theorem pt_int (t : TypeId) (q : IntKind) (ht : Try.prog.underlying t = some (.int q)) (X : Array Value) (o : Nat) (n : Int) (h0 : X[o]? = some (.int .i64 n)) (w : World) : (part t X o).run Try.prog w = .ok (.int .i64 n) w := by
  simp [part, isAgg, run_underlying ht, h0]
theorem equalIn_rinf (d : Nat) (w : World) (s i t j : Int) : (Op.equalIn (d + 5) 23 (.agg #[.int .i64 s, .int .i64 i]) (.agg #[.int .i64 t, .int .i64 j])).run Try.prog w = .ok (s == t && i == j) w := by
  rw [run_equalIn_struct w (d + 4) 23 _ _ ri_under ri_held]
  obtain ⟨f0, f1, hfs, e0, e1⟩ := list_two2 ri_fields
  rw [hfs]
  simp only [Prod.mk.injEq] at e0 e1
  obtain ⟨t0, o0, n0⟩ := e0
  obtain ⟨t1, o1, n1⟩ := e1
  simp only [Op.eqFields, t0, o0, n0, t1, o1, n1]
  rw [if_pos (by decide), if_pos (by decide)]
  have E0 := run_equalIn_int (P := Try.prog) w (d + 3) 3 .i64 .i64 s t Try.underlying3
  have E1 := run_equalIn_int (P := Try.prog) w (d + 3) 2 .i64 .i64 i j Try.underlying2
  have a0 := pt_int 3 .i64 Try.underlying3 #[.int .i64 s, .int .i64 i] 0 s rfl w
  have b0 := pt_int 3 .i64 Try.underlying3 #[.int .i64 t, .int .i64 j] 0 t rfl w
  have a1 := pt_int 2 .i64 Try.underlying2 #[.int .i64 s, .int .i64 i] 1 i rfl w
  have b1 := pt_int 2 .i64 Try.underlying2 #[.int .i64 t, .int .i64 j] 1 j rfl w
  simp only [Sem.run_bind, a0, b0, Result.andThen_ok, E0]
  cases (s == t)
  · simp
  · simp only [Bool.not_true, Bool.false_eq_true, if_false, Bool.true_and, Sem.run_bind, a1, b1, Result.andThen_ok, E1]
    cases (i == j) <;> simp
/-- whether two are not the same. -/
theorem neq_rinf (w : World) (s i t j : Int) : (binOp .neq 23 (.agg #[.int .i64 s, .int .i64 i]) (.agg #[.int .i64 t, .int .i64 j])).run Try.prog w = .ok (.bool (!(s == t && i == j))) w := by
  rw [run_neq_struct, equalIn_rinf 9995 w s i t j]
  rfl

theorem lend_inf {w : World} {g : Nat} {a : Array Value} {t : TypeId} (h : w.heap[g]? = some (.cells a t (0, 0))) (p : BW w) : p.w.heap[g]? = some (.cells a t (0, 0)) := p.block h
set_option maxHeartbeats 8000000 in
theorem memberNewer_any (w : World) (a b c : Int × Int) : Calls Try.prog 3 #[infV a, infV b, infV c] w (fun e w' => e = .returned (.bool true) ∧ Below w.heap.size w w') := by
  obtain ⟨sa, ia⟩ := a
  obtain ⟨sb, ib⟩ := b
  obtain ⟨sc, ic⟩ := c
  have H1 : Hid (newerI (sa, ia) (sa, ia) = false) := hide (newerI_self _)
  have H2 : Hid ((sa == sb && ia == ib) = false → newerI (sb, ib) (sa, ia) = !newerI (sa, ia) (sb, ib)) := hide fun h => newerI_other fun e => by
    simp only [Prod.mk.injEq] at e
    rw [e.1, e.2] at h
    simp at h
  have H3 : Hid (newerI (sa, ia) (sb, ib) = true → newerI (sb, ib) (sc, ic) = true → newerI (sa, ia) (sc, ic) = true) := hide fun h h' => newerI_trans h h'
  have KG1 := hide (fun W => given14_any W (sa, ia))
  have KG2 := hide (fun W => given14_any W (sb, ib))
  have KG3 := hide (fun W => given14_any W (sc, ic))
  have N1 := hide (fun W => newerI_any W (sa, ia) (sb, ib))
  have N2 := hide (fun W => newerR_any W (sa, ia) (sb, ib))
  have N3 := hide (fun W => newerI_any W (sa, ia) (sa, ia))
  have N4 := hide (fun W => newerI_any W (sb, ib) (sa, ia))
  have N5 := hide (fun W => newerI_any W (sb, ib) (sc, ic))
  have N6 := hide (fun W => newerI_any W (sa, ia) (sc, ic))
  have R1 := hide (fun W => rightI_any W (sa, ia))
  have R2 := hide (fun W => rightR_any W (sa, ia))
  have KK := hide (fun W => knownM_any W)
  have hneq := fun W => neq_rinf W sa ia sb ib
  rw [H1.out] at N3
  obtain ⟨ri, hri⟩ : ∃ q, q = rightI (sa, ia) := ⟨_, rfl⟩
  rw [← hri] at R1 R2
  obtain ⟨p, hp⟩ : ∃ q, q = newerI (sa, ia) (sb, ib) := ⟨_, rfl⟩
  rw [← hp] at N1 N2 H2 H3
  obtain ⟨p', hp'⟩ : ∃ q, q = newerI (sb, ib) (sa, ia) := ⟨_, rfl⟩
  rw [← hp'] at N4 H2
  obtain ⟨q, hq⟩ : ∃ q, q = newerI (sb, ib) (sc, ic) := ⟨_, rfl⟩
  rw [← hq] at N5 H3
  obtain ⟨r, hr⟩ : ∃ q, q = newerI (sa, ia) (sc, ic) := ⟨_, rfl⟩
  rw [← hr] at N6 H3
  obtain ⟨u, hu⟩ : ∃ u, u = (sa == sb && ia == ib) := ⟨_, rfl⟩
  rw [← hu] at H2 hneq
  clear hri hp hp' hq hr hu
  unfold infV infA at KG1 KG2 KG3 N1 N2 N3 N4 N5 N6 R1 R2 ⊢
  dsimp only at KG1 KG2 KG3 N1 N2 N3 N4 N5 N6 R1 R2 ⊢
  have HB0 := hide (Below.refl w.heap.size w)
  have aoa : allOne #[Value.int .i64 sa, Value.int .i64 ia] = true := by simp [allOne, Value.oneCell']
  have aob : allOne #[Value.int .i64 sb, Value.int .i64 ib] = true := by simp [allOne, Value.oneCell']
  have aoc : allOne #[Value.int .i64 sc, Value.int .i64 ic] = true := by simp [allOne, Value.oneCell']
  go_enter Try.func3, Try.ntmps3
  go_upto_region 1 with (fail)
  change Code.wp _ _ _ _ (((w.alloc (.cells #[.int .i64 sa, .int .i64 ia] 23)).alloc (.cells #[.int .i64 sb, .int .i64 ib] 23)).alloc (.cells #[.int .i64 sc, .int .i64 ic] 23))
  obtain ⟨w1, hw1, r_a, z1, b1⟩ := alloc_nam w (.cells #[.int .i64 sa, .int .i64 ia] 23)
  rw [hw1]
  have L_a := hide (show w.heap.size < w1.heap.size by omega)
  have G'_a := HB0.out.size
  replace HB0 := hide (HB0.out.trans (b1.mono HB0.out.size))
  obtain ⟨g_a, hg1⟩ : ∃ g, g = w.heap.size := ⟨_, rfl⟩
  have G_a : Hid (w.heap.size ≤ g_a) := hide (by rw [hg1]; exact G'_a)
  clear G'_a
  rw [← hg1] at r_a L_a
  rw [← hg1]
  clear hw1 b1
  obtain ⟨w2, hw2, r_b, z2, b2⟩ := alloc_nam w1 (.cells #[.int .i64 sb, .int .i64 ib] 23)
  rw [hw2]
  have L_b := hide (show w1.heap.size < w2.heap.size by omega)
  have G'_b := HB0.out.size
  replace r_a := (b2.block g_a L_a.out).trans r_a
  replace L_a := hide (Nat.lt_of_lt_of_le L_a.out b2.size)
  replace HB0 := hide (HB0.out.trans (b2.mono HB0.out.size))
  obtain ⟨g_b, hg2⟩ : ∃ g, g = w1.heap.size := ⟨_, rfl⟩
  have G_b : Hid (w.heap.size ≤ g_b) := hide (by rw [hg2]; exact G'_b)
  clear G'_b
  rw [← hg2] at r_b L_b
  rw [show g_a + 1 = g_b by omega]
  clear hw2 b2
  obtain ⟨w3, hw3, r_c, z3, b3⟩ := alloc_nam w2 (.cells #[.int .i64 sc, .int .i64 ic] 23)
  rw [hw3]
  have L_c := hide (show w2.heap.size < w3.heap.size by omega)
  have G'_c := HB0.out.size
  replace r_a := (b3.block g_a L_a.out).trans r_a
  replace L_a := hide (Nat.lt_of_lt_of_le L_a.out b3.size)
  replace r_b := (b3.block g_b L_b.out).trans r_b
  replace L_b := hide (Nat.lt_of_lt_of_le L_b.out b3.size)
  replace HB0 := hide (HB0.out.trans (b3.mono HB0.out.size))
  obtain ⟨g_c, hg3⟩ : ∃ g, g = w2.heap.size := ⟨_, rfl⟩
  have G_c : Hid (w.heap.size ≤ g_c) := hide (by rw [hg3]; exact G'_c)
  clear G'_c
  rw [← hg3] at r_c L_c
  rw [show g_b + 1 = g_c by omega]
  clear hw3 b3
  clear z1 hg1 z2 hg2 z3 hg3
  go_wp2_with fail
  refine (KG1.out _).mono ?_
  rintro e w4 ⟨rfl, bg⟩
  dsimp only
  replace r_a := (bg.block g_a L_a.out).trans r_a
  replace L_a := hide (Nat.lt_of_lt_of_le L_a.out bg.size)
  replace r_b := (bg.block g_b L_b.out).trans r_b
  replace L_b := hide (Nat.lt_of_lt_of_le L_b.out bg.size)
  replace r_c := (bg.block g_c L_c.out).trans r_c
  replace L_c := hide (Nat.lt_of_lt_of_le L_c.out bg.size)
  replace HB0 := hide (HB0.out.trans (bg.mono HB0.out.size))
  clear bg KG1
  go_upto_region 2 with (fail)
  obtain ⟨w5, hw5, r_x, z5, b5⟩ := alloc_nam w4 (.cells #[.int .i64 sa, .int .i64 ia] 24)
  rw [hw5]
  have L_x := hide (show w4.heap.size < w5.heap.size by omega)
  have G'_x := HB0.out.size
  replace r_a := (b5.block g_a L_a.out).trans r_a
  replace L_a := hide (Nat.lt_of_lt_of_le L_a.out b5.size)
  replace r_b := (b5.block g_b L_b.out).trans r_b
  replace L_b := hide (Nat.lt_of_lt_of_le L_b.out b5.size)
  replace r_c := (b5.block g_c L_c.out).trans r_c
  replace L_c := hide (Nat.lt_of_lt_of_le L_c.out b5.size)
  replace HB0 := hide (HB0.out.trans (b5.mono HB0.out.size))
  obtain ⟨g_x, hg5⟩ : ∃ g, g = w4.heap.size := ⟨_, rfl⟩
  have G_x : Hid (w.heap.size ≤ g_x) := hide (by rw [hg5]; exact G'_x)
  clear G'_x
  rw [← hg5] at r_x L_x ⊢
  clear hw5 z5 b5 hg5
  go_wp2_with fail
  refine (KG2.out _).mono ?_
  rintro e w6 ⟨rfl, bg⟩
  dsimp only
  replace r_a := (bg.block g_a L_a.out).trans r_a
  replace L_a := hide (Nat.lt_of_lt_of_le L_a.out bg.size)
  replace r_b := (bg.block g_b L_b.out).trans r_b
  replace L_b := hide (Nat.lt_of_lt_of_le L_b.out bg.size)
  replace r_c := (bg.block g_c L_c.out).trans r_c
  replace L_c := hide (Nat.lt_of_lt_of_le L_c.out bg.size)
  replace r_x := (bg.block g_x L_x.out).trans r_x
  replace L_x := hide (Nat.lt_of_lt_of_le L_x.out bg.size)
  replace HB0 := hide (HB0.out.trans (bg.mono HB0.out.size))
  clear bg KG2
  go_upto_region 3 with (fail)
  obtain ⟨w7, hw7, r_y, z7, b7⟩ := alloc_nam w6 (.cells #[.int .i64 sb, .int .i64 ib] 24)
  rw [hw7]
  have L_y := hide (show w6.heap.size < w7.heap.size by omega)
  have G'_y := HB0.out.size
  replace r_a := (b7.block g_a L_a.out).trans r_a
  replace L_a := hide (Nat.lt_of_lt_of_le L_a.out b7.size)
  replace r_b := (b7.block g_b L_b.out).trans r_b
  replace L_b := hide (Nat.lt_of_lt_of_le L_b.out b7.size)
  replace r_c := (b7.block g_c L_c.out).trans r_c
  replace L_c := hide (Nat.lt_of_lt_of_le L_c.out b7.size)
  replace r_x := (b7.block g_x L_x.out).trans r_x
  replace L_x := hide (Nat.lt_of_lt_of_le L_x.out b7.size)
  replace HB0 := hide (HB0.out.trans (b7.mono HB0.out.size))
  obtain ⟨g_y, hg7⟩ : ∃ g, g = w6.heap.size := ⟨_, rfl⟩
  have G_y : Hid (w.heap.size ≤ g_y) := hide (by rw [hg7]; exact G'_y)
  clear G'_y
  rw [← hg7] at r_y L_y ⊢
  clear hw7 z7 b7 hg7
  go_wp2_with fail
  refine (KG3.out _).mono ?_
  rintro e w8 ⟨rfl, bg⟩
  dsimp only
  replace r_a := (bg.block g_a L_a.out).trans r_a
  replace L_a := hide (Nat.lt_of_lt_of_le L_a.out bg.size)
  replace r_b := (bg.block g_b L_b.out).trans r_b
  replace L_b := hide (Nat.lt_of_lt_of_le L_b.out bg.size)
  replace r_c := (bg.block g_c L_c.out).trans r_c
  replace L_c := hide (Nat.lt_of_lt_of_le L_c.out bg.size)
  replace r_x := (bg.block g_x L_x.out).trans r_x
  replace L_x := hide (Nat.lt_of_lt_of_le L_x.out bg.size)
  replace r_y := (bg.block g_y L_y.out).trans r_y
  replace L_y := hide (Nat.lt_of_lt_of_le L_y.out bg.size)
  replace HB0 := hide (HB0.out.trans (bg.mono HB0.out.size))
  clear bg KG3
  go_upto_region 4 with (fail)
  obtain ⟨w9, hw9, r_z, z9, b9⟩ := alloc_nam w8 (.cells #[.int .i64 sc, .int .i64 ic] 24)
  rw [hw9]
  have L_z := hide (show w8.heap.size < w9.heap.size by omega)
  have G'_z := HB0.out.size
  replace r_a := (b9.block g_a L_a.out).trans r_a
  replace L_a := hide (Nat.lt_of_lt_of_le L_a.out b9.size)
  replace r_b := (b9.block g_b L_b.out).trans r_b
  replace L_b := hide (Nat.lt_of_lt_of_le L_b.out b9.size)
  replace r_c := (b9.block g_c L_c.out).trans r_c
  replace L_c := hide (Nat.lt_of_lt_of_le L_c.out b9.size)
  replace r_x := (b9.block g_x L_x.out).trans r_x
  replace L_x := hide (Nat.lt_of_lt_of_le L_x.out b9.size)
  replace r_y := (b9.block g_y L_y.out).trans r_y
  replace L_y := hide (Nat.lt_of_lt_of_le L_y.out b9.size)
  replace HB0 := hide (HB0.out.trans (b9.mono HB0.out.size))
  obtain ⟨g_z, hg9⟩ : ∃ g, g = w8.heap.size := ⟨_, rfl⟩
  have G_z : Hid (w.heap.size ≤ g_z) := hide (by rw [hg9]; exact G'_z)
  clear G'_z
  rw [← hg9] at r_z L_z ⊢
  clear hw9 z9 b9 hg9
  go_upto_region 4 with (fail)
  have R_a : ∀ p : BW w9, p.w.heap[g_a]? = some (.cells #[.int .i64 sa, .int .i64 ia] 23 (0, 0)) := fun p => p.block r_a
  have R_b : ∀ p : BW w9, p.w.heap[g_b]? = some (.cells #[.int .i64 sb, .int .i64 ib] 23 (0, 0)) := fun p => p.block r_b
  have R_c : ∀ p : BW w9, p.w.heap[g_c]? = some (.cells #[.int .i64 sc, .int .i64 ic] 23 (0, 0)) := fun p => p.block r_c
  have R_x : ∀ p : BW w9, p.w.heap[g_x]? = some (.cells #[.int .i64 sa, .int .i64 ia] 24 (0, 0)) := fun p => p.block r_x
  have R_y : ∀ p : BW w9, p.w.heap[g_y]? = some (.cells #[.int .i64 sb, .int .i64 ib] 24 (0, 0)) := fun p => p.block r_y
  have R_z : ∀ p : BW w9, p.w.heap[g_z]? = some (.cells #[.int .i64 sc, .int .i64 ic] 24 (0, 0)) := fun p => p.block r_z
  first | refine wp_region_belowS w9 (Below.refl _ _) ?_ | refine wp_region_below w9 (Below.refl _ _) (by kernel_rfl) (by kernel_rfl) ?_
  repeat
    first
    | (go_big_quiet_step (first
    | ((go_at_call 10; with_reducible exact Calls.bel (N1.out _)))
    | ((go_at_call 11; with_reducible exact Calls.bel (N2.out _)))
    | ((go_at_call 12; with_reducible exact Calls.bel (R1.out _)))
    | ((go_at_call 13; with_reducible exact Calls.bel (R2.out _)))
    | ((go_at_call 10; with_reducible exact Calls.bel (N3.out _)))
    | fail))
    | (go_big_quiet_want; apply quiet_span; (intro p; go_simp; rfl); (try simp only [Act.put, List.setIfInBounds_toArray, List.set_cons_zero, List.set_cons_succ]); go_big_quiet_on)
  refine wpQuiet_nil ?_
  intro _ hw'
  obtain ⟨pq, hw''⟩ := hw'
  subst hw''
  clear R_a
  clear R_b
  clear R_c
  clear R_x
  clear R_y
  clear R_z
  obtain ⟨w20, hq⟩ : ∃ w1, w1 = pq.w := ⟨_, rfl⟩
  have bq := pq.below
  rw [← hq] at bq ⊢
  replace r_a := (bq.block g_a L_a.out).trans r_a
  replace L_a := hide (Nat.lt_of_lt_of_le L_a.out bq.size)
  replace r_b := (bq.block g_b L_b.out).trans r_b
  replace L_b := hide (Nat.lt_of_lt_of_le L_b.out bq.size)
  replace r_c := (bq.block g_c L_c.out).trans r_c
  replace L_c := hide (Nat.lt_of_lt_of_le L_c.out bq.size)
  replace r_x := (bq.block g_x L_x.out).trans r_x
  replace L_x := hide (Nat.lt_of_lt_of_le L_x.out bq.size)
  replace r_y := (bq.block g_y L_y.out).trans r_y
  replace L_y := hide (Nat.lt_of_lt_of_le L_y.out bq.size)
  replace r_z := (bq.block g_z L_z.out).trans r_z
  replace L_z := hide (Nat.lt_of_lt_of_le L_z.out bq.size)
  replace HB0 := hide (HB0.out.trans (bq.mono HB0.out.size))
  clear bq hq pq
  go_upto_region 6 with (fail)
  have R_a : ∀ p : BW w20, p.w.heap[g_a]? = some (.cells #[.int .i64 sa, .int .i64 ia] 23 (0, 0)) := fun p => p.block r_a
  have R_b : ∀ p : BW w20, p.w.heap[g_b]? = some (.cells #[.int .i64 sb, .int .i64 ib] 23 (0, 0)) := fun p => p.block r_b
  have R_c : ∀ p : BW w20, p.w.heap[g_c]? = some (.cells #[.int .i64 sc, .int .i64 ic] 23 (0, 0)) := fun p => p.block r_c
  have R_x : ∀ p : BW w20, p.w.heap[g_x]? = some (.cells #[.int .i64 sa, .int .i64 ia] 24 (0, 0)) := fun p => p.block r_x
  have R_y : ∀ p : BW w20, p.w.heap[g_y]? = some (.cells #[.int .i64 sb, .int .i64 ib] 24 (0, 0)) := fun p => p.block r_y
  have R_z : ∀ p : BW w20, p.w.heap[g_z]? = some (.cells #[.int .i64 sc, .int .i64 ic] 24 (0, 0)) := fun p => p.block r_z
  cases u
  · obtain rfl : p' = !p := H2.out (by first | rfl | trivial)
    have hpp : (p == !p) = false := by cases p <;> rfl
    have hpp2 : (p != !p) = true := by cases p <;> rfl
    first | refine wp_region_belowS w20 (Below.refl _ _) ?_ | refine wp_region_below w20 (Below.refl _ _) (by kernel_rfl) (by kernel_rfl) ?_
    repeat
      first
      | (go_big_quiet_step (first
      | ((go_at_call 10; with_reducible exact Calls.bel (N1.out _)))
      | ((go_at_call 10; with_reducible exact Calls.bel (N4.out _)))
      | fail))
      | (go_big_quiet_want; apply quiet_span; (intro p; go_simp; rfl); (try simp only [Act.put, List.setIfInBounds_toArray, List.set_cons_zero, List.set_cons_succ]); go_big_quiet_on)
    refine wpQuiet_nil ?_
    intro _ hw'
    obtain ⟨pq, hw''⟩ := hw'
    subst hw''
    clear R_a
    clear R_b
    clear R_c
    clear R_x
    clear R_y
    clear R_z
    obtain ⟨w21, hq⟩ : ∃ w1, w1 = pq.w := ⟨_, rfl⟩
    have bq := pq.below
    rw [← hq] at bq ⊢
    replace r_a := (bq.block g_a L_a.out).trans r_a
    replace L_a := hide (Nat.lt_of_lt_of_le L_a.out bq.size)
    replace r_b := (bq.block g_b L_b.out).trans r_b
    replace L_b := hide (Nat.lt_of_lt_of_le L_b.out bq.size)
    replace r_c := (bq.block g_c L_c.out).trans r_c
    replace L_c := hide (Nat.lt_of_lt_of_le L_c.out bq.size)
    replace r_x := (bq.block g_x L_x.out).trans r_x
    replace L_x := hide (Nat.lt_of_lt_of_le L_x.out bq.size)
    replace r_y := (bq.block g_y L_y.out).trans r_y
    replace L_y := hide (Nat.lt_of_lt_of_le L_y.out bq.size)
    replace r_z := (bq.block g_z L_z.out).trans r_z
    replace L_z := hide (Nat.lt_of_lt_of_le L_z.out bq.size)
    replace HB0 := hide (HB0.out.trans (bq.mono HB0.out.size))
    clear bq hq pq
    go_upto_region 8 with (fail)
    have R_a : ∀ p : BW w21, p.w.heap[g_a]? = some (.cells #[.int .i64 sa, .int .i64 ia] 23 (0, 0)) := fun p => p.block r_a
    have R_b : ∀ p : BW w21, p.w.heap[g_b]? = some (.cells #[.int .i64 sb, .int .i64 ib] 23 (0, 0)) := fun p => p.block r_b
    have R_c : ∀ p : BW w21, p.w.heap[g_c]? = some (.cells #[.int .i64 sc, .int .i64 ic] 23 (0, 0)) := fun p => p.block r_c
    have R_x : ∀ p : BW w21, p.w.heap[g_x]? = some (.cells #[.int .i64 sa, .int .i64 ia] 24 (0, 0)) := fun p => p.block r_x
    have R_y : ∀ p : BW w21, p.w.heap[g_y]? = some (.cells #[.int .i64 sb, .int .i64 ib] 24 (0, 0)) := fun p => p.block r_y
    have R_z : ∀ p : BW w21, p.w.heap[g_z]? = some (.cells #[.int .i64 sc, .int .i64 ic] 24 (0, 0)) := fun p => p.block r_z
    cases p
    · first | refine wp_region_belowS w21 (Below.refl _ _) ?_ | refine wp_region_below w21 (Below.refl _ _) (by kernel_rfl) (by kernel_rfl) ?_
      repeat
        first
        | (go_big_quiet_step (first
        | ((go_at_call 10; with_reducible exact Calls.bel (N1.out _)))
        | ((go_at_call 10; with_reducible exact Calls.bel (N5.out _)))
        | ((go_at_call 10; with_reducible exact Calls.bel (N6.out _)))
        | ((go_at_call 14; with_reducible exact Calls.bel (KK.out _)))
        | fail))
        | (go_big_quiet_want; apply quiet_span; (intro p; go_simp; rfl); (try simp only [Act.put, List.setIfInBounds_toArray, List.set_cons_zero, List.set_cons_succ]); go_big_quiet_on)
      refine wpQuiet_nil ?_
      intro _ hw'
      obtain ⟨pq, hw''⟩ := hw'
      subst hw''
      go_wp2
      go_ret
      exact ⟨rfl, HB0.out.trans (pq.below.mono HB0.out.size)⟩
    cases q
    · first | refine wp_region_belowS w21 (Below.refl _ _) ?_ | refine wp_region_below w21 (Below.refl _ _) (by kernel_rfl) (by kernel_rfl) ?_
      repeat
        first
        | (go_big_quiet_step (first
        | ((go_at_call 10; with_reducible exact Calls.bel (N1.out _)))
        | ((go_at_call 10; with_reducible exact Calls.bel (N5.out _)))
        | ((go_at_call 10; with_reducible exact Calls.bel (N6.out _)))
        | ((go_at_call 14; with_reducible exact Calls.bel (KK.out _)))
        | fail))
        | (go_big_quiet_want; apply quiet_span; (intro p; go_simp; rfl); (try simp only [Act.put, List.setIfInBounds_toArray, List.set_cons_zero, List.set_cons_succ]); go_big_quiet_on)
      refine wpQuiet_nil ?_
      intro _ hw'
      obtain ⟨pq, hw''⟩ := hw'
      subst hw''
      go_wp2
      go_ret
      exact ⟨rfl, HB0.out.trans (pq.below.mono HB0.out.size)⟩
    obtain rfl : r = true := H3.out (by first | rfl | trivial) (by first | rfl | trivial)
    first | refine wp_region_belowS w21 (Below.refl _ _) ?_ | refine wp_region_below w21 (Below.refl _ _) (by kernel_rfl) (by kernel_rfl) ?_
    repeat
      first
      | (go_big_quiet_step (first
      | ((go_at_call 10; with_reducible exact Calls.bel (N1.out _)))
      | ((go_at_call 10; with_reducible exact Calls.bel (N5.out _)))
      | ((go_at_call 10; with_reducible exact Calls.bel (N6.out _)))
      | ((go_at_call 14; with_reducible exact Calls.bel (KK.out _)))
      | fail))
      | (go_big_quiet_want; apply quiet_span; (intro p; go_simp; rfl); (try simp only [Act.put, List.setIfInBounds_toArray, List.set_cons_zero, List.set_cons_succ]); go_big_quiet_on)
    refine wpQuiet_nil ?_
    intro _ hw'
    obtain ⟨pq, hw''⟩ := hw'
    subst hw''
    go_wp2
    go_ret
    exact ⟨rfl, HB0.out.trans (pq.below.mono HB0.out.size)⟩
  · first | refine wp_region_belowS w20 (Below.refl _ _) ?_ | refine wp_region_below w20 (Below.refl _ _) (by kernel_rfl) (by kernel_rfl) ?_
    repeat
      first
      | (go_big_quiet_step (first
      | ((go_at_call 10; with_reducible exact Calls.bel (N1.out _)))
      | ((go_at_call 10; with_reducible exact Calls.bel (N4.out _)))
      | fail))
      | (go_big_quiet_want; apply quiet_span; (intro p; go_simp; rfl); (try simp only [Act.put, List.setIfInBounds_toArray, List.set_cons_zero, List.set_cons_succ]); go_big_quiet_on)
    refine wpQuiet_nil ?_
    intro _ hw'
    obtain ⟨pq, hw''⟩ := hw'
    subst hw''
    clear R_a
    clear R_b
    clear R_c
    clear R_x
    clear R_y
    clear R_z
    obtain ⟨w21, hq⟩ : ∃ w1, w1 = pq.w := ⟨_, rfl⟩
    have bq := pq.below
    rw [← hq] at bq ⊢
    replace r_a := (bq.block g_a L_a.out).trans r_a
    replace L_a := hide (Nat.lt_of_lt_of_le L_a.out bq.size)
    replace r_b := (bq.block g_b L_b.out).trans r_b
    replace L_b := hide (Nat.lt_of_lt_of_le L_b.out bq.size)
    replace r_c := (bq.block g_c L_c.out).trans r_c
    replace L_c := hide (Nat.lt_of_lt_of_le L_c.out bq.size)
    replace r_x := (bq.block g_x L_x.out).trans r_x
    replace L_x := hide (Nat.lt_of_lt_of_le L_x.out bq.size)
    replace r_y := (bq.block g_y L_y.out).trans r_y
    replace L_y := hide (Nat.lt_of_lt_of_le L_y.out bq.size)
    replace r_z := (bq.block g_z L_z.out).trans r_z
    replace L_z := hide (Nat.lt_of_lt_of_le L_z.out bq.size)
    replace HB0 := hide (HB0.out.trans (bq.mono HB0.out.size))
    clear bq hq pq
    go_upto_region 8 with (fail)
    have R_a : ∀ p : BW w21, p.w.heap[g_a]? = some (.cells #[.int .i64 sa, .int .i64 ia] 23 (0, 0)) := fun p => p.block r_a
    have R_b : ∀ p : BW w21, p.w.heap[g_b]? = some (.cells #[.int .i64 sb, .int .i64 ib] 23 (0, 0)) := fun p => p.block r_b
    have R_c : ∀ p : BW w21, p.w.heap[g_c]? = some (.cells #[.int .i64 sc, .int .i64 ic] 23 (0, 0)) := fun p => p.block r_c
    have R_x : ∀ p : BW w21, p.w.heap[g_x]? = some (.cells #[.int .i64 sa, .int .i64 ia] 24 (0, 0)) := fun p => p.block r_x
    have R_y : ∀ p : BW w21, p.w.heap[g_y]? = some (.cells #[.int .i64 sb, .int .i64 ib] 24 (0, 0)) := fun p => p.block r_y
    have R_z : ∀ p : BW w21, p.w.heap[g_z]? = some (.cells #[.int .i64 sc, .int .i64 ic] 24 (0, 0)) := fun p => p.block r_z
    cases p
    · first | refine wp_region_belowS w21 (Below.refl _ _) ?_ | refine wp_region_below w21 (Below.refl _ _) (by kernel_rfl) (by kernel_rfl) ?_
      repeat
        first
        | (go_big_quiet_step (first
        | ((go_at_call 10; with_reducible exact Calls.bel (N1.out _)))
        | ((go_at_call 10; with_reducible exact Calls.bel (N5.out _)))
        | ((go_at_call 10; with_reducible exact Calls.bel (N6.out _)))
        | ((go_at_call 14; with_reducible exact Calls.bel (KK.out _)))
        | fail))
        | (go_big_quiet_want; apply quiet_span; (intro p; go_simp; rfl); (try simp only [Act.put, List.setIfInBounds_toArray, List.set_cons_zero, List.set_cons_succ]); go_big_quiet_on)
      refine wpQuiet_nil ?_
      intro _ hw'
      obtain ⟨pq, hw''⟩ := hw'
      subst hw''
      go_wp2
      go_ret
      exact ⟨rfl, HB0.out.trans (pq.below.mono HB0.out.size)⟩
    cases q
    · first | refine wp_region_belowS w21 (Below.refl _ _) ?_ | refine wp_region_below w21 (Below.refl _ _) (by kernel_rfl) (by kernel_rfl) ?_
      repeat
        first
        | (go_big_quiet_step (first
        | ((go_at_call 10; with_reducible exact Calls.bel (N1.out _)))
        | ((go_at_call 10; with_reducible exact Calls.bel (N5.out _)))
        | ((go_at_call 10; with_reducible exact Calls.bel (N6.out _)))
        | ((go_at_call 14; with_reducible exact Calls.bel (KK.out _)))
        | fail))
        | (go_big_quiet_want; apply quiet_span; (intro p; go_simp; rfl); (try simp only [Act.put, List.setIfInBounds_toArray, List.set_cons_zero, List.set_cons_succ]); go_big_quiet_on)
      refine wpQuiet_nil ?_
      intro _ hw'
      obtain ⟨pq, hw''⟩ := hw'
      subst hw''
      go_wp2
      go_ret
      exact ⟨rfl, HB0.out.trans (pq.below.mono HB0.out.size)⟩
    obtain rfl : r = true := H3.out (by first | rfl | trivial) (by first | rfl | trivial)
    first | refine wp_region_belowS w21 (Below.refl _ _) ?_ | refine wp_region_below w21 (Below.refl _ _) (by kernel_rfl) (by kernel_rfl) ?_
    repeat
      first
      | (go_big_quiet_step (first
      | ((go_at_call 10; with_reducible exact Calls.bel (N1.out _)))
      | ((go_at_call 10; with_reducible exact Calls.bel (N5.out _)))
      | ((go_at_call 10; with_reducible exact Calls.bel (N6.out _)))
      | ((go_at_call 14; with_reducible exact Calls.bel (KK.out _)))
      | fail))
      | (go_big_quiet_want; apply quiet_span; (intro p; go_simp; rfl); (try simp only [Act.put, List.setIfInBounds_toArray, List.set_cons_zero, List.set_cons_succ]); go_big_quiet_on)
    refine wpQuiet_nil ?_
    intro _ hw'
    obtain ⟨pq, hw''⟩ := hw'
    subst hw''
    go_wp2
    go_ret
    exact ⟨rfl, HB0.out.trans (pq.below.mono HB0.out.size)⟩
end Go.Proofs.Ytpbgbfmpjgkllaa
