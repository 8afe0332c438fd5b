/-
  What a view that is not there answers.
-/
import Derived.Test.YtpbgbfmpjgkllaaMu
namespace Go.Proofs.Ytpbgbfmpjgkllaa
open Go.RowKit Go.Shelf
set_option maxRecDepth 100000
set_option linter.unusedVariables false
set_option linter.unusedSimpArgs false
attribute [local go_sem] Oper.semAt_some
attribute [local go_sem ↓] exec_span exec_put exec_build heap_alloc_new heap_old
attribute [local go_sem] spanQ_ptr spanC_some heap_of_drew heap_of_drewN putAt_ptr putOk_ptr oldOk_some World.setRow_alloc_new rs_inf rs_view

set_option maxHeartbeats 1000000 in
theorem nilHear_any (w : World) (k : Int) (i : Int × Int) : Calls Try.prog 18 #[.pointer none, .int .i64 k, infV i] w (RetV w (.tuple #[.bool false, .int .i64 2])) := by
  obtain ⟨s, c⟩ := i
  have HB : Hid (∀ o, Below w.heap.size w (w.alloc o)) := hide fun o => (Below.refl _ _).alloc (Nat.le_refl _) _
  unfold infV infA
  go_enter Try.func18, Try.ntmps18
  go_wp2
  go_ret2
  exact ⟨rfl, HB.out _⟩
set_option maxHeartbeats 1000000 in
theorem nilOther_any (w : World) (k : Int) : Calls Try.prog 42 #[.pointer none, .int .i64 k] w (RetV w (.int .i64 2)) := by
  go_enter Try.func42, Try.ntmps42
  go_wp2
  go_ret
  exact ⟨rfl, Below.refl _ _⟩
set_option maxHeartbeats 2000000 in
theorem nilDoubt_any (w : World) (k : Int) : Calls Try.prog 20 #[.pointer none, .int .i64 k] w (RetV w (.tuple #[infV (0, 0), .int .i64 2])) := by
  have hao : allOne #[Value.int .i64 0, Value.int .i64 0] = true := by simp [allOne, Value.oneCell']
  have hbi := built_inf0
  obtain ⟨W, hW, r1, hz, hb⟩ := alloc_nam w (.cells #[.int .i64 0, .int .i64 0] 24)
  have HW := hide hW
  have HB := hide hb
  have HZ := hide hz
  clear hW hb hz
  go_enter Try.func20, Try.ntmps20
  go_upto_region 1 with (fail)
  change Code.wp _ _ _ _ (w.alloc (.cells #[.int .i64 0, .int .i64 0] 24))
  rw [HW.out]
  go_wp2_with fail
  refine (nilOther_any W k).mono ?_
  rintro e w2 ⟨rfl, b2⟩
  dsimp only
  have r2 := (b2.block w.heap.size (by have := HZ.out; omega)).trans r1
  have HB2 := hide (HB.out.trans (b2.mono HB.out.size))
  clear b2 r1
  go_wp2
  refine bodyPost_ret (results_cell_tmp (fn := Try.f20) Try.results20 _ _ w.heap.size 24 #[.int .i64 0, .int .i64 0] (0, 0) _ rfl (by first | exact setRow_heap w2 _ _ _ _ _ r2 | exact r2) Try.underlying24 rfl (by exact info_inf)) rfl ?_
  exact ⟨rfl, by first | exact below_setRow HB2.out (Nat.le_refl _) _ | exact HB2.out⟩
set_option maxHeartbeats 2000000 in
theorem nilBury_any (w : World) (k : Int) : Calls Try.prog 23 #[.pointer none, .int .i64 k] w (RetV w (.tuple #[infV (0, 0), .int .i64 2])) := by
  have hao : allOne #[Value.int .i64 0, Value.int .i64 0] = true := by simp [allOne, Value.oneCell']
  have hbi := built_inf0
  obtain ⟨W, hW, r1, hz, hb⟩ := alloc_nam w (.cells #[.int .i64 0, .int .i64 0] 24)
  have HW := hide hW
  have HB := hide hb
  have HZ := hide hz
  clear hW hb hz
  go_enter Try.func23, Try.ntmps23
  go_upto_region 1 with (fail)
  change Code.wp _ _ _ _ (w.alloc (.cells #[.int .i64 0, .int .i64 0] 24))
  rw [HW.out]
  go_wp2_with fail
  refine (nilOther_any W k).mono ?_
  rintro e w2 ⟨rfl, b2⟩
  dsimp only
  have r2 := (b2.block w.heap.size (by have := HZ.out; omega)).trans r1
  have HB2 := hide (HB.out.trans (b2.mono HB.out.size))
  clear b2 r1
  go_wp2
  refine bodyPost_ret (results_cell_tmp (fn := Try.f23) Try.results23 _ _ w.heap.size 24 #[.int .i64 0, .int .i64 0] (0, 0) _ rfl (by first | exact setRow_heap w2 _ _ _ _ _ r2 | exact r2) Try.underlying24 rfl (by exact info_inf)) rfl ?_
  exact ⟨rfl, by first | exact below_setRow HB2.out (Nat.le_refl _) _ | exact HB2.out⟩
set_option maxHeartbeats 1000000 in
theorem nilGet_any (w : World) (k : Int) : Calls Try.prog 27 #[.pointer none, .int .i64 k] w (RetV w (infV (0, 0))) := by
  have hao : allOne #[Value.int .i64 0, Value.int .i64 0] = true := by simp [allOne, Value.oneCell']
  have hbi := built_inf0
  obtain ⟨W, hW, r1, hz, hb⟩ := alloc_nam w (.cells #[.int .i64 0, .int .i64 0] 24)
  have HW := hide hW
  have HB := hide hb
  clear hW hb hz
  go_enter Try.func27, Try.ntmps27
  go_upto_region 1 with (fail)
  change Code.wp _ _ _ _ (w.alloc (.cells #[.int .i64 0, .int .i64 0] 24))
  rw [HW.out]
  go_wp2
  refine bodyPost_ret (results_cell_row (fn := Try.f27) Try.results27 _ _ w.heap.size 24 #[.int .i64 0, .int .i64 0] (0, 0) _ rfl (setRow_heap W _ _ _ _ _ r1) Try.underlying24 rfl (by exact info_inf)) rfl ?_
  exact ⟨rfl, below_setRow HB.out (Nat.le_refl _) _⟩
set_option maxHeartbeats 1000000 in
theorem nilSame_any (w : World) (p q : Option Addr) (h : p = none ∨ q = none) : Calls Try.prog 26 #[.pointer p, .pointer q] w (RetV w (.bool (decide (p = q)))) := by
  rcases p with _ | p
  · rcases q with _ | q
    · go_enter Try.func26, Try.ntmps26
      go_wp2
      go_ret
      exact ⟨rfl, Below.refl _ _⟩
    · have hpe : (binOp .eql 33 (.pointer none) (.pointer (some q))).run Try.prog w = .ok (.bool false) w := by kernel_rfl
      go_enter Try.func26, Try.ntmps26
      go_wp2
      go_ret
      exact ⟨by simp, Below.refl _ _⟩
  · obtain rfl : q = none := h.resolve_left (by simp)
    have hpe : (binOp .eql 33 (.pointer (some p)) (.pointer none)).run Try.prog w = .ok (.bool false) w := by kernel_rfl
    go_enter Try.func26, Try.ntmps26
    go_wp2
    go_ret
    exact ⟨by simp, Below.refl _ _⟩
set_option maxHeartbeats 1000000 in
theorem nilCopy_any (w : World) : Calls Try.prog 25 #[.pointer none] w (RetV w (.pointer none)) := by
  go_enter Try.func25, Try.ntmps25
  go_wp2
  go_ret
  exact ⟨rfl, Below.refl _ _⟩
set_option maxHeartbeats 1000000 in
theorem nilBytes_any (w : World) : Calls Try.prog 28 #[.pointer none] w (RetV w (.slice none 0 0)) := by
  go_enter Try.func28, Try.ntmps28
  go_wp2
  go_ret
  exact ⟨rfl, Below.refl _ _⟩
theorem allNil_stops (F : Fence) (n : Nat) (hF : F.fn 58) (hro : F.round = none) (hn : 1 ≤ n) (Bn n₀ : Nat) (w : World) (hBn : Bn < w.heap.size) (hc : w.cell? ⟨Bn, 0, none⟩ = some (.pointer none)) :
    SeqStopsK F n Try.prog 58 #[.pointer (some ⟨Bn, 0, none⟩)] (fun x : Nat × (Int × Int) => #[Value.int .i64 (x.1 : Int), .agg #[.int .i64 x.2.1, .int .i64 x.2.2]]) (Below n₀) (fun ys => ys = []) (fun _ => False) 0 w := fun lp J Jx W hW _ _ hY h0 => by
  have hbn : W.cell? ⟨Bn, 0, none⟩ = some (.pointer none) := (hW.cell (p := ⟨Bn, 0, none⟩) hBn).trans hc
  refine callsIn_of_wp Try.func58 rfl hF ?_ hro
  simp only [Try.ntmps58, List.size_toArray, List.length_cons, List.length_nil, Nat.reduceAdd, Nat.reduceSub, Array.replicate_succ, Array.replicate_zero, List.push_toArray, List.append_toArray, List.nil_append, List.cons_append]
  gi_wp2
  refine bodyPost_ret (results_none rfl _ _ _) rfl ?_
  first | exact ⟨⟨_, rfl⟩, h0⟩ | exact ⟨⟨_, rfl⟩, Or.inl ⟨[], rfl, h0⟩⟩
set_option maxHeartbeats 4000000 in
theorem nilLive_in (F : Fence) (n : Nat) (hF : F.fn 30) (hF1 : F.fn 46) (hF2 : F.fn 58) (hro : F.round = none) (hn : 4 ≤ n) (w : World) :
    CallsIn F n Try.prog 30 #[.pointer none] w fun e W' => e = .returned (.slice none 0 0) ∧ Below w.heap.size w W' := by
  have h1 : 1 ≤ n := by omega
  refine callsIn_of_wp_marks Try.func30 rfl hF ?_ hro
  simp only [Try.ntmps30, List.size_toArray, List.length_cons, List.length_nil, Nat.reduceAdd, Nat.reduceSub, Array.replicate_succ, Array.replicate_zero, List.push_toArray, List.append_toArray, List.nil_append, List.cons_append]
  gi_wp2_with (gi_at_call 46; refine (all_in F (n - 1) hF1 hro _ _).mono ?_; rintro e w' ⟨rfl, rfl⟩)
  have bO := (Boxed.new w 56 (.slice none 0 0)).alloc (.cells #[.pointer none] 33)
  have bN := Boxed.new (w.alloc (.cells #[.slice none 0 0] 56)) 33 (.pointer none)
  rw [World.size_alloc] at bN
  have hB0 : Below w.heap.size w ((w.alloc (.cells #[.slice none 0 0] 56)).alloc (.cells #[.pointer none] 33)) := ((Below.refl _ w).alloc (Nat.le_refl _) _).alloc (by simp) _
  have hsz : ((w.alloc (.cells #[.slice none 0 0] 56)).alloc (.cells #[.pointer none] 33)).heap.size = w.heap.size + 2 := by simp
  obtain ⟨W0, hW0⟩ : ∃ W0, (w.alloc (.cells #[.slice none 0 0] 56)).alloc (.cells #[.pointer none] 33) = W0 := ⟨_, rfl⟩
  rw [hW0] at bO bN hB0 hsz ⊢
  clear hW0
  refine wpIn_rangeFunc_ownH hro h1 (gf := 58) (lb := #[.pointer (some ⟨w.heap.size + 1, 0, none⟩)]) rfl hF2 (enters_of Try.func58 (by kernel_rfl) rfl)
    (allNil_stops F (n - 1) hF2 hro (by omega) (w.heap.size + 1) w.heap.size W0 (by omega) bN.cell) belowK_t (belowK_b (by omega)) (Below.refl _ _) (fun _ => rfl)
    (fun pre W => Boxed W w.heap.size 56 (.slice none 0 0) ∧ Below w.heap.size w W)
    (fun _ _ _ => False)
    (OwnFrom.and (Own.from (boxed_own _ _ _) _) (ownFrom_below (Nat.le_refl _) (by omega)))
    (fun _ _ _ _ _ hs _ _ => hs)
    ⟨bO, hB0⟩
    (fun x a' W => True)
    (fun x a' _ X Y row hs hg hr => trivial)
    ?assign ?body ?done ?stop
  case assign =>
    rintro lp pre x W K ⟨bO1, hB1⟩ hK
    have hao : allOne #[Value.int .i64 x.2.1, Value.int .i64 x.2.2] = true := by simp [allOne, Value.oneCell']
    gi_wp2
    exact hK _ _ ((KeepsOthers.alloc _ _).from _) ((Below.refl _ W).alloc hB1.size _) ⟨bO1.alloc _, hB1.alloc hB1.size _⟩ trivial
  case body =>
    rintro lp pre x a' W _ _ _ _ hlt
    exact absurd hlt (by simp)
  case done =>
    rintro D ys W hD rfl ⟨bO1, hB1⟩ hK
    have hc := bO1.cell
    gi_wp2
    refine ⟨by simp, .inl ⟨_, _, rfl, run_takeDeferred hK, ?_⟩⟩
    exact ⟨_, results_tmp rfl _ _ _, rfl, hB1.trans (belowK_b (w := W0) (by omega) W D _ _ (by omega) hK rfl rfl)⟩
  case stop =>
    rintro D c pre W _ _ h _
    exact h.elim
theorem nilLive_any (w : World) : Calls Try.prog 30 #[.pointer none] w (RetV w (.slice none 0 0)) :=
  (callsIn_wide (n := 4)).1 (nilLive_in Fence.wide 4 trivial trivial trivial rfl (by decide) w)
end Go.Proofs.Ytpbgbfmpjgkllaa
