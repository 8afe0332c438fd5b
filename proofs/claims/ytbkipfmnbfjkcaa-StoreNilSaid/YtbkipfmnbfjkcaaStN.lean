/-
  Pins as the law takes them; the walk of StoreNil.
-/
import Derived.Test.YtbkipfmnbfjkcaaVz
namespace Go.Proofs.Ytbkipfmnbfjkcaa
open Go.RowKit
set_option maxRecDepth 100000
set_option linter.unusedVariables false
set_option linter.unusedSimpArgs false
attribute [local go_sem ↓] exec_span exec_put exec_build heap_alloc_new heap_old
attribute [local go_sem] spanQ_ptr spanC_some heap_of_drew heap_of_drewN putAt_ptr putOk_ptr oldOk_some World.setRow_alloc_new rs_Flow rs_Pin rs_Com rs_Sto rs_Que rs_tup built_pin0 built_com built_pin pinZ_lit tkZ_lit built_que
theorem rs_RPin : rowSize Try.prog 81 = some 42 := by kernel_rfl
attribute [local go_sem] rs_RPin rs_RFlow built_rflow3
theorem built_rpin16 (sv dv : Bool) (p s d b g fp fs fl : Int) (a0 a1 a2 a3 a4 a5 a6 a7 a8 a9 a10 a11 a12 a13 a14 a15 b0 b1 b2 b3 b4 b5 b6 b7 b8 b9 b10 b11 b12 b13 b14 b15 : UInt8) :
    Try.prog.built 81 [(0, .agg (tupL ⟨sv, [a0, a1, a2, a3, a4, a5, a6, a7, a8, a9, a10, a11, a12, a13, a14, a15], dv, [b0, b1, b2, b3, b4, b5, b6, b7, b8, b9, b10, b11, b12, b13, b14, b15], p, s, d⟩).toArray), (1, .int .i64 b), (2, .int .i64 g), (3, .agg #[.int .i64 fp, .int .i64 fs, .int .i64 fl])]
      = some (tupL ⟨sv, [a0, a1, a2, a3, a4, a5, a6, a7, a8, a9, a10, a11, a12, a13, a14, a15], dv, [b0, b1, b2, b3, b4, b5, b6, b7, b8, b9, b10, b11, b12, b13, b14, b15], p, s, d⟩ ++ [Value.int .i64 b, .int .i64 g, .int .i64 fp, .int .i64 fs, .int .i64 fl]).toArray := by kernel_rfl
theorem built_rpin (q : PinR) : Try.prog.built 81 [(0, .agg (tupA q.t)), (1, .int .i64 q.b), (2, .int .i64 q.g), (3, .agg #[.int .i64 q.f.p, .int .i64 q.f.s, .int .i64 q.f.l])] = some (pinA q) := by
  obtain ⟨⟨⟨sv, sb, dv, db, p, s, d⟩, h1, h2⟩, b, g, fp, fs, fl⟩ := q
  obtain ⟨a0, a1, a2, a3, a4, a5, a6, a7, a8, a9, a10, a11, a12, a13, a14, a15, rfl⟩ := list16 sb h1
  obtain ⟨b0, b1, b2, b3, b4, b5, b6, b7, b8, b9, b10, b11, b12, b13, b14, b15, rfl⟩ := list16 db h2
  exact built_rpin16 _ _ _ _ _ _ _ _ _ _ _ _ _ _ _ _ _ _ _ _ _ _ _ _ _ _ _ _ _ _ _ _ _ _ _ _ _ _ _ _ _ _
theorem pin_at3 (q : PinR) : (pinA q)[39]? = some (.int .i64 q.f.p) ∧ (pinA q)[40]? = some (.int .i64 q.f.s) ∧ (pinA q)[41]? = some (.int .i64 q.f.l) := by
  unfold pinA pinL
  simp only [List.getElem?_toArray]
  refine ⟨?_, ?_, ?_⟩ <;> (rw [List.getElem?_append_right (by rw [tupL_len]; omega), tupL_len]; rfl)
theorem info_rpin : (Try.prog.info? 81).map (·.size) = some 42 := by kernel_rfl
set_option maxHeartbeats 2000000 in
theorem taken20_any (w : World) (q : PinR) : Calls Try.prog 36 #[.agg (pinA q)] w (RetV w (.agg (pinA q))) := by
  obtain ⟨W1, hW1, r_q, z1, b1⟩ := alloc_nm w (.cells (pinA q) 66)
  obtain ⟨W2, hW2, r_r, z2, b2⟩ := alloc_nm W1 (.cells (pinA pinZ) 81)
  replace r_q := keepB b2 r_q
  have HB := hide (b1.trans (b2.mono b1.size))
  have HN := hide (show w.heap.size ≤ W1.heap.size from b1.size)
  obtain ⟨y1, y2⟩ := pin_at q
  obtain ⟨y3, y4, y5⟩ := pin_at3 q
  have k1 : W2.cell? ⟨w.heap.size, 37, none⟩ = some (.int .i64 q.b) := (cell_of_row W2 _ 37 _ _ (0, 0) r_q).trans y1
  have k2 : W2.cell? ⟨w.heap.size, 38, none⟩ = some (.int .i64 q.g) := (cell_of_row W2 _ 38 _ _ (0, 0) r_q).trans y2
  have k3 : W2.cell? ⟨w.heap.size, 39, none⟩ = some (.int .i64 q.f.p) := (cell_of_row W2 _ 39 _ _ (0, 0) r_q).trans y3
  have k4 : W2.cell? ⟨w.heap.size, 40, none⟩ = some (.int .i64 q.f.s) := (cell_of_row W2 _ 40 _ _ (0, 0) r_q).trans y4
  have k5 : W2.cell? ⟨w.heap.size, 41, none⟩ = some (.int .i64 q.f.l) := (cell_of_row W2 _ 41 _ _ (0, 0) r_q).trans y5
  have bq := built_rpin q
  have px := pin_tup q
  have ps := pin_size q
  have po := pin_one q
  have zs := pin_size pinZ
  have HR := hide r_r
  clear b1 b2 z1 z2 y1 y2 y3 y4 y5
  go_enter Try.func36, Try.ntmps36
  go_wp2
  refine bodyPost_ret (results_cell_row (fn := Try.f36) Try.results36 _ _ W1.heap.size 81 (pinA q) (0, 0) _ rfl (setRow_heap _ _ _ _ _ _ HR.out) Try.underlying81 rfl (by rw [ps]; exact info_rpin)) rfl ?_
  exact ⟨rfl, below_setRow HB.out HN.out _⟩
theorem eql_rpinZ (w : World) : (binOp .eql 81 (.agg (pinA pinZ)) (.agg (pinA pinZ))).run Try.prog w = .ok (.bool true) w := by kernel_rfl
theorem built_rpin0 : Try.prog.built 81 [] = some (pinA pinZ) := by kernel_rfl
attribute [local go_sem] built_rpin0
set_option maxHeartbeats 16000000 in
theorem storeNil_any (w : World) (t : TK) (now : Int) : Calls Try.prog 10 #[encT t, .int .i64 now] w (RetV w (.bool true)) := by
  have KP := hide (fun W => nPacket_any W t 0 now now)
  have KB := hide (fun W => nBegin_any W t 0 now now 0 1)
  have KG := hide (fun W => nGet_any W t now)
  have KT := hide (fun W => taken20_any W pinZ)
  have K1 := hide (fun W => nCount_any W 0 1 now)
  have K2 := hide (fun W => nBusy_any W 0 1 now)
  have K3 := hide (fun W => nUntil_any W 0 1)
  have K4 := hide (fun W => nSweep_any W now)
  have K5 := hide (fun W => nList_any W now)
  have K6 := hide (fun W => nLen_any W now)
  have KK := hide (fun W => known20_any W)
  have EQ := eql_rpinZ
  have tx := tup_x t
  have ts := tup_size t
  have t1 := tup_one t
  have zs := pin_size pinZ
  have zx := pin_x pinZ
  have z1 := pin_one pinZ
  unfold pinEV at KP KB
  unfold gotV pinO at KG
  unfold encT at *
  dsimp only at KP KB KG
  have HB := hide (Below.refl w.heap.size w)
  obtain ⟨W1, hW1, r_t, z1, b1⟩ := alloc_nm w (.cells (tupA t) 63)
  clear z1
  replace HB := hide (HB.out.trans (b1.mono HB.out.size))
  clear b1
  go_enter Try.func10, Try.ntmps10
  go_wp2_with fail
  go_at_call 30
  with_reducible refine (KP.out _).mono ?_
  rintro e W2 ⟨rfl, b2⟩
  replace r_t := keepB b2 r_t
  replace HB := hide (HB.out.trans (b2.mono HB.out.size))
  clear b2
  dsimp only
  obtain ⟨W3, hW3, r_a, z3, b3⟩ := alloc_nm W2 (.cells (pinA pinZ) 66)
  clear z3
  have hS3 : W3.setRow W2.heap.size (pinA pinZ) = W3 := by rw [← hW3, World.setRow_alloc_new]
  replace r_t := keepB b3 r_t
  replace HB := hide (HB.out.trans (b3.mono HB.out.size))
  clear b3
  go_wp2_with fail
  go_at_call 29
  with_reducible refine (KB.out _).mono ?_
  rintro e W4 ⟨rfl, b4⟩
  replace r_t := keepB b4 r_t
  replace r_a := keepB b4 r_a
  replace HB := hide (HB.out.trans (b4.mono HB.out.size))
  clear b4
  dsimp only
  obtain ⟨W5, hW5, r_b, z5, b5⟩ := alloc_nm W4 (.cells (pinA pinZ) 66)
  clear z5
  have hS5 : W5.setRow W4.heap.size (pinA pinZ) = W5 := by rw [← hW5, World.setRow_alloc_new]
  replace r_t := keepB b5 r_t
  replace r_a := keepB b5 r_a
  replace HB := hide (HB.out.trans (b5.mono HB.out.size))
  clear b5
  go_wp2_with fail
  go_at_call 35
  with_reducible refine (KG.out _).mono ?_
  rintro e W6 ⟨rfl, b6⟩
  replace r_t := keepB b6 r_t
  replace r_a := keepB b6 r_a
  replace r_b := keepB b6 r_b
  replace HB := hide (HB.out.trans (b6.mono HB.out.size))
  clear b6
  dsimp only
  obtain ⟨W7, hW7, r_c, z7, b7⟩ := alloc_nm W6 (.cells (pinA pinZ) 66)
  clear z7
  have hS7 : W7.setRow W6.heap.size (pinA pinZ) = W7 := by rw [← hW7, World.setRow_alloc_new]
  replace r_t := keepB b7 r_t
  replace r_a := keepB b7 r_a
  replace r_b := keepB b7 r_b
  replace HB := hide (HB.out.trans (b7.mono HB.out.size))
  clear b7
  go_upto_region 5 with (fail)
  obtain ⟨W8, hW8, r_n, z8, b8⟩ := alloc_nm W7 (.cells (pinA pinZ) 81)
  clear z8
  have hS8 : W8.setRow W7.heap.size (pinA pinZ) = W8 := by rw [← hW8, World.setRow_alloc_new]
  replace r_t := keepB b8 r_t
  replace r_a := keepB b8 r_a
  replace r_b := keepB b8 r_b
  replace r_c := keepB b8 r_c
  replace HB := hide (HB.out.trans (b8.mono HB.out.size))
  clear b8
  go_upto_region 6 with (fail)
  have R_t : ∀ q : BW W8, q.w.heap[w.heap.size]? = some (.cells (tupA t) 63 (0, 0)) := fun q => q.block r_t
  have R_a : ∀ q : BW W8, q.w.heap[W2.heap.size]? = some (.cells (pinA pinZ) 66 (0, 0)) := fun q => q.block r_a
  have R_b : ∀ q : BW W8, q.w.heap[W4.heap.size]? = some (.cells (pinA pinZ) 66 (0, 0)) := fun q => q.block r_b
  have R_c : ∀ q : BW W8, q.w.heap[W6.heap.size]? = some (.cells (pinA pinZ) 66 (0, 0)) := fun q => q.block r_c
  have R_n : ∀ q : BW W8, q.w.heap[W7.heap.size]? = some (.cells (pinA pinZ) 81 (0, 0)) := fun q => q.block r_n
  first | refine wp_region_belowS W8 (Below.refl _ _) ?_ | refine wp_region_below W8 (Below.refl _ _) (by kernel_rfl) (by kernel_rfl) ?_
  (try simp only [List.append_eq, List.cons_append, List.nil_append])
  repeat
    first
    | (go_big_quiet_step (first
      | (go_at_call 36; with_reducible exact Calls.bel (KT.out _))
      | (go_at_call 34; with_reducible exact Calls.bel (K1.out _))
      | (go_at_call 31; with_reducible exact Calls.bel (K2.out _))
      | (go_at_call 37; with_reducible exact Calls.bel (K3.out _))
      | (go_at_call 38; with_reducible exact Calls.bel (K4.out _))
      | (go_at_call 39; with_reducible exact Calls.bel (K5.out _))
      | (go_at_call 33; with_reducible exact Calls.bel (K6.out _))
      | (go_at_call 32; with_reducible exact Calls.bel (KK.out _))
      | fail))
    | (go_big_quiet_want; apply quiet_span; (intro p; go_simp; rfl); (try simp only [Act.put, List.setIfInBounds_toArray, List.set_cons_zero, List.set_cons_succ]); go_big_quiet_on)
  refine wpQuiet_nil ?_
  intro _ hw'
  obtain ⟨pq9, hw''⟩ := hw'
  subst hw''
  clear R_t
  clear R_a
  clear R_b
  clear R_c
  clear R_n
  obtain ⟨W9, b9⟩ := pq9
  dsimp only
  replace r_t := keepB b9 r_t
  replace r_a := keepB b9 r_a
  replace r_b := keepB b9 r_b
  replace r_c := keepB b9 r_c
  replace r_n := keepB b9 r_n
  replace HB := hide (HB.out.trans (b9.mono HB.out.size))
  clear b9
  go_wp2
  go_ret
  exact ⟨rfl, HB.out⟩
theorem storeNilX_any (w : World) (X : Array Value) (t : Tup) (h : TuV X t) (now : Int) : Calls Try.prog 10 #[.agg X, .int .i64 now] w (RetV w (.bool true)) := by
  have := storeNil_any w ⟨t, h.ls, h.ld⟩ now
  unfold encT tupA at this
  rw [h.eq]
  exact this
end Go.Proofs.Ytbkipfmnbfjkcaa
