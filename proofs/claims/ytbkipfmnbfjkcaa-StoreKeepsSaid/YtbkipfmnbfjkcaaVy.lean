/-
  A store that is not there; tuples and pins as the law has them.
-/
import Derived.Test.YtbkipfmnbfjkcaaVx
namespace Go.Proofs.Ytbkipfmnbfjkcaa
open Go.RowKit
set_option maxRecDepth 100000
set_option linter.unusedVariables false
set_option linter.unusedSimpArgs false
attribute [local go_sem ↓] exec_span exec_put exec_build heap_alloc_new heap_old
attribute [local go_sem] spanQ_ptr spanC_some heap_of_drew heap_of_drewN putAt_ptr putOk_ptr oldOk_some World.setRow_alloc_new rs_Flow rs_Pin rs_Com rs_Sto rs_Que rs_tup built_pin0 built_com built_pin pinZ_lit tkZ_lit built_que
theorem answerN_any (w : World) (X : Array Value) : Calls Try.prog 54 #[.pointer none, .agg X] w (RetV w (.slice none 0 0)) := by
  have HB := hide (fun o => (Below.refl w.heap.size w).alloc (Nat.le_refl _) o)
  go_enter Try.func54, Try.ntmps54
  go_wp2
  go_ret
  exact ⟨rfl, HB.out _⟩
set_option maxHeartbeats 1000000 in
theorem nLen_any (w : World) (now : Int) : Calls Try.prog 33 #[.pointer none, .int .i64 now] w (RetV w (.int .i64 0)) := by
  have HB := hide (Below.refl w.heap.size w)
  go_enter Try.func33, Try.ntmps33
  go_wp2_with fail
  go_at_call 54
  with_reducible refine (answerN_any _ _).mono ?_
  rintro e w5 ⟨rfl, b5⟩
  have HB5 := hide (HB.out.trans (b5.mono HB.out.size))
  clear b5
  dsimp only
  go_wp2
  go_ret
  exact ⟨rfl, HB5.out⟩
set_option maxHeartbeats 1000000 in
theorem nCount_any (w : World) (b g now : Int) : Calls Try.prog 34 #[.pointer none, .int .i64 b, .int .i64 g, .int .i64 now] w (RetV w (.int .i64 0)) := by
  obtain ⟨w1, hw1, r1, z1, b1⟩ := alloc_nm w (.cells #[.int .i64 b] 3)
  obtain ⟨w2, hw2, r2, z2, b2⟩ := alloc_nm w1 (.cells #[.int .i64 g] 2)
  have HB := hide (b1.trans (b2.mono b1.size))
  clear b1 b2 z1 z2 r1 r2
  go_enter Try.func34, Try.ntmps34
  go_wp2_with fail
  go_at_call 54
  with_reducible refine (answerN_any _ _).mono ?_
  rintro e w5 ⟨rfl, b5⟩
  have HB5 := hide (HB.out.trans (b5.mono HB.out.size))
  clear b5
  dsimp only
  go_wp2
  go_ret
  exact ⟨rfl, HB5.out⟩
set_option maxHeartbeats 1000000 in
theorem nBusy_any (w : World) (b g now : Int) : Calls Try.prog 31 #[.pointer none, .int .i64 b, .int .i64 g, .int .i64 now] w (RetV w (.bool false)) := by
  have HB := hide (Below.refl w.heap.size w)
  go_enter Try.func31, Try.ntmps31
  go_wp2
  go_ret
  exact ⟨rfl, HB.out⟩
set_option maxHeartbeats 1000000 in
theorem nUntil_any (w : World) (b g : Int) : Calls Try.prog 37 #[.pointer none, .int .i64 b, .int .i64 g] w (RetV w (.int .i64 0)) := by
  have HB := hide (Below.refl w.heap.size w)
  go_enter Try.func37, Try.ntmps37
  go_wp2
  go_ret
  exact ⟨rfl, HB.out⟩
set_option maxHeartbeats 1000000 in
theorem nSweep_any (w : World) (now : Int) : Calls Try.prog 38 #[.pointer none, .int .i64 now] w (RetV w (.int .i64 0)) := by
  obtain ⟨w2, hw2, r2, z2, b2⟩ := alloc_nm w (.cells #[.int .i64 now] 2)
  have HB := hide b2
  clear b2 z2 r2
  go_enter Try.func38, Try.ntmps38
  go_wp2
  go_ret
  exact ⟨rfl, HB.out⟩
set_option maxHeartbeats 2000000 in
theorem nPacket_any (w : World) (t : TK) (fl now z : Int) : Calls Try.prog 30 #[.pointer none, encT t, .int .i64 fl, .int .i64 now, .int .i64 z] w (RetV w (pinEV (pinZ, 2))) := by
  have tx := tup_x t
  have ts := tup_size t
  have t1 := tup_one t
  have zs := pin_size pinZ
  have z1 := pin_one pinZ
  unfold encT
  have HB := hide (Below.refl w.heap.size w)
  obtain ⟨W1, hW1, r_t, z1, b1⟩ := alloc_nm w (.cells (tupA t) 63)
  clear z1
  replace HB := hide (HB.out.trans (b1.mono HB.out.size))
  clear b1
  have N_r := hide HB.out.size
  obtain ⟨W2, hW2, r_r, z2, b2⟩ := alloc_nm W1 (.cells (pinA pinZ) 66)
  clear z2
  replace r_t := keepB b2 r_t
  replace HB := hide (HB.out.trans (b2.mono HB.out.size))
  clear b2
  have HRr := hide r_r
  go_enter Try.func30, Try.ntmps30
  go_wp2
  refine bodyPost_ret (results_cell_tmp (fn := Try.f30) Try.results30 _ _ W1.heap.size 66 (pinA pinZ) (0, 0) _ rfl (setRow_heap _ _ _ _ _ _ HRr.out) Try.underlying66 rfl (by rw [pin_size]; exact info_pin)) rfl ?_
  exact ⟨rfl, below_setRow HB.out N_r.out _⟩
set_option maxHeartbeats 2000000 in
theorem nBegin_any (w : World) (t : TK) (fl now z b g : Int) : Calls Try.prog 29 #[.pointer none, encT t, .int .i64 fl, .int .i64 now, .int .i64 z, .int .i64 b, .int .i64 g] w (RetV w (pinEV (pinZ, 2))) := by
  have tx := tup_x t
  have ts := tup_size t
  have t1 := tup_one t
  have zs := pin_size pinZ
  have z1 := pin_one pinZ
  unfold encT
  have HB := hide (Below.refl w.heap.size w)
  obtain ⟨W1, hW1, r_t, z1, b1⟩ := alloc_nm w (.cells (tupA t) 63)
  clear z1
  replace HB := hide (HB.out.trans (b1.mono HB.out.size))
  clear b1
  have N_r := hide HB.out.size
  obtain ⟨W2, hW2, r_r, z2, b2⟩ := alloc_nm W1 (.cells (pinA pinZ) 66)
  clear z2
  replace r_t := keepB b2 r_t
  replace HB := hide (HB.out.trans (b2.mono HB.out.size))
  clear b2
  have HRr := hide r_r
  go_enter Try.func29, Try.ntmps29
  go_wp2
  refine bodyPost_ret (results_cell_tmp (fn := Try.f29) Try.results29 _ _ W1.heap.size 66 (pinA pinZ) (0, 0) _ rfl (setRow_heap _ _ _ _ _ _ HRr.out) Try.underlying66 rfl (by rw [pin_size]; exact info_pin)) rfl ?_
  exact ⟨rfl, below_setRow HB.out N_r.out _⟩
set_option maxHeartbeats 2000000 in
theorem nGet_any (w : World) (t : TK) (now : Int) : Calls Try.prog 35 #[.pointer none, encT t, .int .i64 now] w (RetV w (gotV none)) := by
  have tx := tup_x t
  have ts := tup_size t
  have t1 := tup_one t
  have zs := pin_size pinZ
  have z1 := pin_one pinZ
  unfold encT
  have HB := hide (Below.refl w.heap.size w)
  obtain ⟨W1, hW1, r_t, z1, b1⟩ := alloc_nm w (.cells (tupA t) 63)
  clear z1
  replace HB := hide (HB.out.trans (b1.mono HB.out.size))
  clear b1
  have N_r := hide HB.out.size
  obtain ⟨W2, hW2, r_r, z2, b2⟩ := alloc_nm W1 (.cells (pinA pinZ) 66)
  clear z2
  replace r_t := keepB b2 r_t
  replace HB := hide (HB.out.trans (b2.mono HB.out.size))
  clear b2
  have HRr := hide r_r
  go_enter Try.func35, Try.ntmps35
  go_wp2
  refine bodyPost_ret (results_cell_tmp (fn := Try.f35) Try.results35 _ _ W1.heap.size 66 (pinA pinZ) (0, 0) _ rfl (setRow_heap _ _ _ _ _ _ HRr.out) Try.underlying66 rfl (by rw [pin_size]; exact info_pin)) rfl ?_
  exact ⟨rfl, below_setRow HB.out N_r.out _⟩
set_option maxHeartbeats 2000000 in
theorem insN_any (w : World) (v : Value) : Calls Try.prog 70 #[.slice none 0 0, .int .i64 0, .int .i64 0, v] w fun e w' => e = .returned (.tuple #[]) ∧ w = w' := by
  go_enter Try.func70, Try.ntmps70
  go_wp2_with fail
  go_loopw [8] (fun u wr => u = .int .i64 1 ∧ w = wr) (fun _ _ => 0)
  case atStart => exact ⟨rfl, rfl⟩
  case round =>
    obtain ⟨rfl, rfl⟩ := hrel
    go_wp2
    go_end0
    exact ⟨rfl, rfl⟩
set_option maxHeartbeats 2000000 in
theorem pdqN_any (w : World) (v : Value) (k : Int) : Calls Try.prog 65 #[.slice none 0 0, .int .i64 0, .int .i64 0, .int .i64 k, v] w fun e w' => e = .returned (.tuple #[]) ∧ w = w' := by
  have KI := hide (insN_any w v)
  go_enter Try.func65, Try.ntmps65
  go_wp2_with fail
  go_loopw [1, 2, 3] (fun a b c wr => a = .int .i64 0 ∧ b = .int .i64 0 ∧ c = .int .i64 k ∧ w = wr) (fun _ _ _ _ => 0)
  case atStart => exact ⟨rfl, rfl, rfl, rfl⟩
  case round =>
    obtain ⟨rfl, rfl, rfl, rfl⟩ := hrel
    go_wp2_with fail
    go_at_call 70
    with_reducible refine KI.out.mono ?_
    rintro e w2 ⟨rfl, rfl⟩
    dsimp only
    go_wp2
    refine bodyPost_ret (results_none rfl _ _ _) rfl ?_
    exact ⟨rfl, rfl⟩
theorem len64_any (w : World) : Calls Try.prog 79 #[.int .u64 0] w fun e w' => e = .returned (.int .i64 0) ∧ w = w' := by
  go_enter Try.func79, Try.ntmps79
  go_wp2
  go_ret
  exact ⟨by first | rfl | kernel_rfl | exact ret_i64 (by decide), rfl⟩
theorem lenU_any (w : World) : Calls Try.prog 66 #[.int .u64 0] w fun e w' => e = .returned (.int .i64 0) ∧ w = w' := by
  go_enter Try.func66, Try.ntmps66
  go_wp2_with fail
  go_at_call 79
  with_reducible refine (len64_any _).mono ?_
  rintro e w2 ⟨rfl, rfl⟩
  dsimp only
  go_wp2
  go_ret
  exact ⟨rfl, rfl⟩
set_option maxHeartbeats 2000000 in
theorem sortN_any (w : World) (v : Value) : Calls Try.prog 59 #[.slice none 0 0, v] w fun e w' => e = .returned (.tuple #[]) ∧ w = w' := by
  have KP := hide (fun k => pdqN_any w v k)
  go_enter Try.func59, Try.ntmps59
  go_wp2_with fail
  go_at_call 66
  with_reducible refine (lenU_any _).mono ?_
  rintro e w2 ⟨rfl, rfl⟩
  dsimp only
  go_wp2_with fail
  go_at_call 65
  with_reducible refine (KP.out _).mono ?_
  rintro e w2 ⟨rfl, rfl⟩
  dsimp only
  go_wp2
  go_end0
  exact ⟨rfl, rfl⟩
set_option maxHeartbeats 2000000 in
theorem nList_any (w : World) (now : Int) : Calls Try.prog 39 #[.pointer none, .int .i64 now] w (RetV w (.slice none 0 0)) := by
  have HB := hide (Below.refl w.heap.size w)
  go_enter Try.func39, Try.ntmps39
  go_wp2_with fail
  go_at_call 54
  with_reducible refine (answerN_any _ _).mono ?_
  rintro e w5 ⟨rfl, b5⟩
  have HB5 := hide (HB.out.trans (b5.mono HB.out.size))
  clear b5
  dsimp only
  go_wp2_with fail
  go_at_call 59
  with_reducible refine (sortN_any _ _).mono ?_
  rintro e w6 ⟨rfl, rfl⟩
  dsimp only
  go_wp2
  go_ret
  exact ⟨rfl, HB5.out⟩
def tN (n : Int) : TK := ⟨⟨false, 10 :: List.replicate 15 0, false, List.replicate 16 0, 6, n, 80⟩, by simp, by simp⟩
def tN0 (n : Int) : TK := ⟨⟨false, List.replicate 16 0, false, List.replicate 16 0, 6, n, 80⟩, by simp, by simp⟩
theorem built_tN (n : Int) : Try.prog.built 63 [(2, .int .i64 6), (3, .int .i64 n), (4, .int .i64 80)] = some (tupA (tN0 n)) := by kernel_rfl
theorem set_tN (n : Int) : (tupA (tN0 n)).setIfInBounds 1 (.int .u8 10) = tupA (tN n) := by rfl
theorem at_tN (n : Int) : (tupA (tN0 n))[1]? = some (.int .u8 0) := by rfl
theorem info_tupV : (Try.prog.info? 63).map (·.size) = some 37 := by kernel_rfl
set_option maxHeartbeats 2000000 in
theorem tuple20_any (w : World) (n : Int) (h0 : 0 ≤ n) (h1 : n ≤ 100000) : Calls Try.prog 28 #[.int .i64 n] w (RetV w (encT (tN (1 + n)))) := by
  obtain ⟨W1, hW1, r_r, z1, b1⟩ := alloc_nm w (.cells (tupA tkZ) 63)
  obtain ⟨W2, hW2, r_t, z2, b2⟩ := alloc_nm W1 (.cells (tupA (tN0 (1 + n))) 63)
  replace r_r := keepB b2 r_r
  have B2 : Below w.heap.size w W2 := b1.trans (b2.mono b1.size)
  have bt := built_tN (1 + n)
  have c1 : W2.cell? ⟨W1.heap.size, 1, none⟩ = some (.int .u8 0) := (cell_of_row W2 _ 1 _ _ (0, 0) r_t).trans (at_tN (1 + n))
  have f1 : W2.frozen? ⟨W1.heap.size, 1, none⟩ = false := frozen_of_row W2 _ 1 _ _ r_t
  have r_t3 := heap_setCell_same W2 W1.heap.size 1 _ _ (.int .u8 10) r_t
  rw [set_tN] at r_t3
  have r_r3 := (heap_setCell_other W2 ⟨W1.heap.size, 1, none⟩ w.heap.size (.int .u8 10) (by simp only [ne_eq]; omega)).trans r_r
  obtain ⟨W3, hW3⟩ : ∃ W3, W2.setCell ⟨W1.heap.size, 1, none⟩ (.int .u8 10) = W3 := ⟨_, rfl⟩
  have HB3 : Hid (Below w.heap.size w W3) := hide (by rw [← hW3]; exact below_setV B2 (by omega) _)
  rw [hW3] at r_t3 r_r3
  have HR3 := hide r_r3
  have x0 := tup_x (tN (1 + n))
  have s0 := tup_size (tN (1 + n))
  have o0 := tup_one (tN (1 + n))
  have s1 := tup_size (tN0 (1 + n))
  have o1 := tup_one (tN0 (1 + n))
  have sz := tup_size tkZ
  have ru := rs_tup
  unfold encT
  clear b1 b2 z1 z2 B2 r_r r_t
  go_enter Try.func28, Try.ntmps28
  go_wp2
  refine bodyPost_ret (results_cell_row (fn := Try.f28) Try.results28 _ _ w.heap.size 63 (tupA (tN (1 + n))) (0, 0) _ rfl (setRow_heap _ _ _ _ _ _ HR3.out) Try.underlying63 rfl (by rw [s0]; exact info_tupV)) rfl ?_
  exact ⟨rfl, below_setRow HB3.out (Nat.le_refl _) _⟩
end Go.Proofs.Ytbkipfmnbfjkcaa
