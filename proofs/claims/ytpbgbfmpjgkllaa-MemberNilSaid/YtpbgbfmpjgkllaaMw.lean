/-
  The walk of the statement MemberNil.
-/
import Derived.Test.YtpbgbfmpjgkllaaMv
namespace Go.Proofs.Ytpbgbfmpjgkllaa
open Go.RowKit
set_option maxRecDepth 100000
set_option linter.unusedVariables false
set_option linter.unusedSimpArgs false
attribute [local go_sem ↓] exec_span exec_put exec_build heap_alloc_new heap_old
attribute [local go_sem] spanQ_ptr spanC_some heap_of_drew heap_of_drewN putAt_ptr putOk_ptr oldOk_some World.setRow_alloc_new rs_inf rs_view rs_rinf

theorem mi_fields : (Try.prog.fieldsOf 24).toList.map (fun f => (f.type, f.offset, f.name)) = [(3, 0, "State"), (2, 1, "Inc")] := by kernel_rfl
theorem mi_under : Try.prog.underlying 24 = some (.struct (Try.prog.fieldsOf 24)) := by kernel_rfl
theorem mi_held : Try.prog.stoodInHeld 24 = false := by kernel_rfl
theorem eql_inf0 (w : World) : (binOp .eql 24 (.agg #[.int .i64 0, .int .i64 0]) (.agg #[.int .i64 0, .int .i64 0])).run Try.prog w = .ok (.bool true) w := by kernel_rfl
theorem eql_rinf0 (w : World) : (binOp .eql 23 (.agg #[.int .i64 0, .int .i64 0]) (.agg #[.int .i64 0, .int .i64 0])).run Try.prog w = .ok (.bool true) w := by kernel_rfl
theorem built_rinf0 : Try.prog.built 23 [] = some #[.int .i64 0, .int .i64 0] := by kernel_rfl
set_option maxHeartbeats 8000000 in
theorem memberNil_any (w : World) (k : Int) (i : Int × Int) : Calls Try.prog 8 #[.int .i64 k, infV i] w (fun e w' => e = .returned (.bool true) ∧ Below w.heap.size w w') := by
  obtain ⟨s, c⟩ := i
  have KG := hide (fun W => given14_any W (s, c))
  have KH := hide (fun W => nilHear_any W k (s, c))
  have KD := hide (fun W => nilDoubt_any W k)
  have KB := hide (fun W => nilBury_any W k)
  have KE := hide (fun W => nilGet_any W k)
  have KT := hide (fun W => taken14_any W (0, 0))
  have KL := hide (fun W => nilLive_any W)
  have KC := hide (fun W => nilCopy_any W)
  have KY := hide (fun W => nilBytes_any W)
  have KK := hide (fun W => knownM_any W)
  have heq1 := fun W => eql_inf0 W
  have heq2 := fun W => eql_rinf0 W
  have hbr := built_rinf0
  have aoi : allOne #[Value.int .i64 s, Value.int .i64 c] = true := by simp [allOne, Value.oneCell']
  have aoz : allOne #[Value.int .i64 0, Value.int .i64 0] = true := by simp [allOne, Value.oneCell']
  unfold infV infA at KG KH KD KB KE KT ⊢
  dsimp only at KG KH KD KB KE KT ⊢
  have HB0 := hide (Below.refl w.heap.size w)
  go_enter Try.func8, Try.ntmps8
  go_upto_region 1 with (fail)
  change Code.wp _ _ _ _ (w.alloc (.cells #[.int .i64 s, .int .i64 c] 23))
  obtain ⟨w1, hw1, r_i, z1, b1⟩ := alloc_nam w (.cells #[.int .i64 s, .int .i64 c] 23)
  rw [hw1]
  have L_i := hide (show w.heap.size < w1.heap.size by omega)
  have G'_i := HB0.out.size
  replace HB0 := hide (HB0.out.trans (b1.mono HB0.out.size))
  obtain ⟨g_i, hg1⟩ : ∃ g, g = w.heap.size := ⟨_, rfl⟩
  have G_i : Hid (w.heap.size ≤ g_i) := hide (by rw [hg1]; exact G'_i)
  clear G'_i
  rw [← hg1] at r_i L_i
  rw [← hg1]
  clear hw1 b1
  clear z1 hg1
  go_wp2_with fail
  refine (KG.out _).mono ?_
  rintro e w2 ⟨rfl, bg⟩
  dsimp only
  replace r_i := (bg.block g_i L_i.out).trans r_i
  replace L_i := hide (Nat.lt_of_lt_of_le L_i.out bg.size)
  replace HB0 := hide (HB0.out.trans (bg.mono HB0.out.size))
  clear bg
  go_wp2_with fail
  refine (KH.out _).mono ?_
  rintro e w3 ⟨rfl, bg⟩
  dsimp only
  replace r_i := (bg.block g_i L_i.out).trans r_i
  replace L_i := hide (Nat.lt_of_lt_of_le L_i.out bg.size)
  replace HB0 := hide (HB0.out.trans (bg.mono HB0.out.size))
  clear bg
  go_wp2_with fail
  refine (KD.out _).mono ?_
  rintro e w4 ⟨rfl, bg⟩
  dsimp only
  replace r_i := (bg.block g_i L_i.out).trans r_i
  replace L_i := hide (Nat.lt_of_lt_of_le L_i.out bg.size)
  replace HB0 := hide (HB0.out.trans (bg.mono HB0.out.size))
  clear bg
  go_upto_region 4 with (fail)
  obtain ⟨w5, hw5, r_b, z5, b5⟩ := alloc_nam w4 (.cells #[.int .i64 0, .int .i64 0] 24)
  rw [hw5]
  have L_b := hide (show w4.heap.size < w5.heap.size by omega)
  have G'_b := HB0.out.size
  replace r_i := (b5.block g_i L_i.out).trans r_i
  replace L_i := hide (Nat.lt_of_lt_of_le L_i.out b5.size)
  replace HB0 := hide (HB0.out.trans (b5.mono HB0.out.size))
  obtain ⟨g_b, hg5⟩ : ∃ g, g = w4.heap.size := ⟨_, rfl⟩
  have G_b : Hid (w.heap.size ≤ g_b) := hide (by rw [hg5]; exact G'_b)
  clear G'_b
  rw [← hg5] at r_b L_b ⊢
  clear hw5 z5 b5 hg5
  go_wp2_with fail
  refine (KB.out _).mono ?_
  rintro e w6 ⟨rfl, bg⟩
  dsimp only
  replace r_i := (bg.block g_i L_i.out).trans r_i
  replace L_i := hide (Nat.lt_of_lt_of_le L_i.out bg.size)
  replace r_b := (bg.block g_b L_b.out).trans r_b
  replace L_b := hide (Nat.lt_of_lt_of_le L_b.out bg.size)
  replace HB0 := hide (HB0.out.trans (bg.mono HB0.out.size))
  clear bg
  go_upto_region 5 with (fail)
  obtain ⟨w7, hw7, r_c, z7, b7⟩ := alloc_nam w6 (.cells #[.int .i64 0, .int .i64 0] 24)
  rw [hw7]
  have L_c := hide (show w6.heap.size < w7.heap.size by omega)
  have G'_c := HB0.out.size
  replace r_i := (b7.block g_i L_i.out).trans r_i
  replace L_i := hide (Nat.lt_of_lt_of_le L_i.out b7.size)
  replace r_b := (b7.block g_b L_b.out).trans r_b
  replace L_b := hide (Nat.lt_of_lt_of_le L_b.out b7.size)
  replace HB0 := hide (HB0.out.trans (b7.mono HB0.out.size))
  obtain ⟨g_c, hg7⟩ : ∃ g, g = w6.heap.size := ⟨_, rfl⟩
  have G_c : Hid (w.heap.size ≤ g_c) := hide (by rw [hg7]; exact G'_c)
  clear G'_c
  rw [← hg7] at r_c L_c ⊢
  clear hw7 z7 b7 hg7
  go_wp2_with fail
  refine (newV_any _ 0 1).mono ?_
  rintro e w8 ⟨bg, ⟨hno, -⟩ | ⟨-, gv, bv, rfl, hgv, hbv, hv⟩⟩
  · exact absurd hno (by decide)
  dsimp only
  replace r_i := (bg.block g_i L_i.out).trans r_i
  replace L_i := hide (Nat.lt_of_lt_of_le L_i.out bg.size)
  replace r_b := (bg.block g_b L_b.out).trans r_b
  replace L_b := hide (Nat.lt_of_lt_of_le L_b.out bg.size)
  replace r_c := (bg.block g_c L_c.out).trans r_c
  replace L_c := hide (Nat.lt_of_lt_of_le L_c.out bg.size)
  replace HB0 := hide (HB0.out.trans (bg.mono HB0.out.size))
  clear bg
  clear hv
  have KS1 : Hid (∀ W, Calls Try.prog 26 #[.pointer none, .pointer none] W (RetV W (.bool true))) := hide fun W => nilSame_any W none none (.inl rfl)
  have KS2 : Hid (∀ W, Calls Try.prog 26 #[.pointer none, .pointer (some ⟨gv, 0, none⟩)] W (RetV W (.bool false))) := hide fun W => nilSame_any W none (some ⟨gv, 0, none⟩) (.inl rfl)
  have KS3 : Hid (∀ W, Calls Try.prog 26 #[.pointer (some ⟨gv, 0, none⟩), .pointer none] W (RetV W (.bool false))) := hide fun W => nilSame_any W (some ⟨gv, 0, none⟩) none (.inr rfl)
  go_upto_region 7 with (fail)
  obtain ⟨w9, hw9, r_n, z9, b9⟩ := alloc_nam w8 (.cells #[.int .i64 0, .int .i64 0] 23)
  rw [hw9]
  have L_n := hide (show w8.heap.size < w9.heap.size by omega)
  have G'_n := HB0.out.size
  replace r_i := (b9.block g_i L_i.out).trans r_i
  replace L_i := hide (Nat.lt_of_lt_of_le L_i.out b9.size)
  replace r_b := (b9.block g_b L_b.out).trans r_b
  replace L_b := hide (Nat.lt_of_lt_of_le L_b.out b9.size)
  replace r_c := (b9.block g_c L_c.out).trans r_c
  replace L_c := hide (Nat.lt_of_lt_of_le L_c.out b9.size)
  replace HB0 := hide (HB0.out.trans (b9.mono HB0.out.size))
  obtain ⟨g_n, hg9⟩ : ∃ g, g = w8.heap.size := ⟨_, rfl⟩
  have G_n : Hid (w.heap.size ≤ g_n) := hide (by rw [hg9]; exact G'_n)
  clear G'_n
  rw [← hg9] at r_n L_n ⊢
  clear hw9 z9 b9 hg9
  have R_b : ∀ p : BW w9, p.w.heap[g_b]? = some (.cells #[.int .i64 0, .int .i64 0] 24 (0, 0)) := fun p => p.block r_b
  have R_c : ∀ p : BW w9, p.w.heap[g_c]? = some (.cells #[.int .i64 0, .int .i64 0] 24 (0, 0)) := fun p => p.block r_c
  have R_n : ∀ p : BW w9, p.w.heap[g_n]? = some (.cells #[.int .i64 0, .int .i64 0] 23 (0, 0)) := fun p => p.block r_n
  first | refine wp_region_belowS w9 (Below.refl _ _) ?_ | refine wp_region_below w9 (Below.refl _ _) (by kernel_rfl) (by kernel_rfl) ?_
  simp only [List.append_eq, List.cons_append, List.nil_append]
  repeat
    first
    | (go_big_quiet_step (first
    | ((go_at_call 22; with_reducible exact Calls.bel (KT.out _)))
    | ((go_at_call 27; with_reducible exact Calls.bel (KE.out _)))
    | ((go_at_call 30; with_reducible exact Calls.bel (KL.out _)))
    | ((go_at_call 26; with_reducible exact Calls.bel (KS1.out _)))
    | ((go_at_call 26; with_reducible exact Calls.bel (KS2.out _)))
    | ((go_at_call 26; with_reducible exact Calls.bel (KS3.out _)))
    | ((go_at_call 25; with_reducible exact Calls.bel (KC.out _)))
    | ((go_at_call 28; with_reducible exact Calls.bel (KY.out _)))
    | ((go_at_call 14; with_reducible exact Calls.bel (KK.out _)))
    | fail))
    | (go_big_quiet_want; apply quiet_span; (intro p; go_simp; rfl); (try simp only [Act.put, List.setIfInBounds_toArray, List.set_cons_zero, List.set_cons_succ]); go_big_quiet_on)
  refine wpQuiet_nil ?_
  intro _ hw'
  obtain ⟨pq, hw''⟩ := hw'
  subst hw''
  go_wp2
  go_ret
  exact ⟨rfl, HB0.out.trans (pq.below.mono HB0.out.size)⟩
end Go.Proofs.Ytpbgbfmpjgkllaa
