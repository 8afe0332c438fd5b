/-
  What must come of fixed calls of a store.
-/
import Derived.Test.YtbkipfmnbfjkcaaVy
namespace Go.Proofs.Ytbkipfmnbfjkcaa
open Go.RowKit
set_option maxRecDepth 100000
set_option linter.unusedVariables false
set_option linter.unusedSimpArgs false
attribute [local go_sem ↓] exec_span exec_put exec_build heap_alloc_new heap_old
attribute [local go_sem] spanQ_ptr spanC_some heap_of_drew heap_of_drewN putAt_ptr putOk_ptr oldOk_some World.setRow_alloc_new rs_Flow rs_Pin rs_Com rs_Sto rs_Que rs_tup built_pin0 built_com built_pin pinZ_lit tkZ_lit built_que
def kq1 : PinR := ⟨tN 2, 3, 1, ⟨6, 1, 5⟩⟩
def kq2 : PinR := ⟨tN 2, 3, 1, ⟨6, 1, 20⟩⟩
theorem k_begin : beginS 4 [] [] (tN 2) 2 5 9 3 1 = ((kq1, 0), ([kq1], [((3, 1), 9)])) := by rfl
theorem k_packet : packetS [kq1] [((3, 1), 9)] (tN 2) 16 20 24 = ((kq2, 0), ([kq2], [((3, 1), 24)])) := by rfl
theorem k_busy1 : busyL 3 1 80 [kq2] [((3, 1), 24)] = true := by rfl
theorem k_busy2 : busyL 3 1 85 [kq2] [((3, 1), 24)] = false := by rfl
theorem k_until : (lookU (3, 1) [((3, 1), 24)]).getD 0 = 24 := by rfl
theorem k_len : (lenL 20 [kq2] : Int) = 1 := by rfl
set_option maxHeartbeats 16000000 in
theorem known20_any (w : World) : Calls Try.prog 32 #[] w (RetV w (.bool true)) := by
  have KT := hide (fun W => tuple20_any W 1 (by omega) (by omega))
  have KB := hide (fun (W : World) (p bp bu : Nat) (hs : StoS W p bp bu 4 [] []) => beginS_any hs (by simp) (tN 2) 2 5 9 3 1)
  have KP := hide (fun (W : World) (p bp bu : Nat) (hs : StoS W p bp bu 4 [kq1] [((3, 1), 9)]) => packetS_any hs (tN 2) 16 20 24)
  have K1 := hide (fun (W : World) (p bp bu : Nat) (hs : StoS W p bp bu 4 [kq2] [((3, 1), 24)]) => busyS_any hs (by simp) 3 1 80)
  have K2 := hide (fun (W : World) (p bp bu : Nat) (hs : StoS W p bp bu 4 [kq2] [((3, 1), 24)]) => busyS_any hs (by simp) 3 1 85)
  have K3 := hide (fun (W : World) (p bp bu : Nat) (hs : StoS W p bp bu 4 [kq2] [((3, 1), 24)]) => untS_any hs 3 1)
  have K4 := hide (fun (W : World) (p bp bu : Nat) (hs : StoS W p bp bu 4 [kq2] [((3, 1), 24)]) => lenS_any hs (by simp) 20)
  rw [show (1 : Int) + 1 = 2 by rfl] at KT
  rw [k_begin] at KB
  rw [k_packet] at KP
  rw [k_busy1] at K1
  rw [k_busy2] at K2
  rw [k_until] at K3
  rw [k_len] at K4
  have x1 := pin_x kq1
  have s1 := pin_size kq1
  have o1 := pin_one kq1
  have a1 := (pin_at kq1).1
  have x2 := pin_x kq2
  have s2 := pin_size kq2
  have o2 := pin_one kq2
  have a2 := (pin_at kq2).1
  have zs := pin_size pinZ
  unfold pinEV at KB KP
  dsimp only at KB KP
  have HB := hide (Below.refl w.heap.size w)
  go_enter Try.func32, Try.ntmps32
  go_wp2_with fail
  go_at_call 26
  with_reducible refine (newS_any _ 4).mono ?_
  rintro e W1 ⟨b1, hN⟩
  rcases hN with ⟨_, p, bp, bu, rfl, h1, h2, hS⟩ | ⟨hN, _⟩
  case inr => exact absurd (by omega) hN
  have hbp : Hid (w.heap.size ≤ bp) := hide (by have := HB.out.size; omega)
  have hbu : Hid (w.heap.size ≤ bu) := hide (by have := HB.out.size; omega)
  have HS := hide hS
  clear h1 h2 hS
  replace HB := hide (HB.out.trans (b1.mono HB.out.size))
  clear b1
  dsimp only
  go_wp2_with fail
  go_at_call 28
  with_reducible refine (KT.out _).mono ?_
  rintro e W2 ⟨rfl, b2⟩
  replace HS := hide (HS.out.below b2)
  replace HB := hide (HB.out.trans (b2.mono HB.out.size))
  clear b2
  dsimp only
  go_wp2_with fail
  go_at_call 29
  with_reducible refine (KB.out _ _ _ _ HS.out).mono ?_
  rintro e W3 ⟨rfl, hS3, hT3⟩
  replace HB := hide (Tou.bel HB.out HB.out.size hT3 hbp.out hbu.out)
  replace HS := hide hS3
  clear hS3 hT3
  dsimp only
  have N_a := hide HS.out.lt
  obtain ⟨W4, hW4, r_a, z4, b4⟩ := alloc_nm W3 (.cells (pinA kq1) 66)
  clear z4
  replace HS := hide (HS.out.below b4)
  replace HB := hide (HB.out.trans (b4.mono HB.out.size))
  clear b4
  go_wp2_with fail
  go_at_call 28
  with_reducible refine (KT.out _).mono ?_
  rintro e W5 ⟨rfl, b5⟩
  replace r_a := keepB b5 r_a
  replace HS := hide (HS.out.below b5)
  replace HB := hide (HB.out.trans (b5.mono HB.out.size))
  clear b5
  dsimp only
  go_wp2_with fail
  go_at_call 30
  with_reducible refine (KP.out _ _ _ _ HS.out).mono ?_
  rintro e W6 ⟨rfl, hS6, hT6⟩
  replace r_a := keepT hT6 (by have := N_a.out; omega) (by have := N_a.out; omega) r_a
  replace HB := hide (Tou.bel HB.out HB.out.size hT6 hbp.out hbu.out)
  replace HS := hide hS6
  clear hS6 hT6
  dsimp only
  have N_b := hide HS.out.lt
  obtain ⟨W7, hW7, r_b, z7, b7⟩ := alloc_nm W6 (.cells (pinA kq2) 66)
  clear z7
  replace r_a := keepB b7 r_a
  replace HS := hide (HS.out.below b7)
  replace HB := hide (HB.out.trans (b7.mono HB.out.size))
  clear b7
  have k_a : ∀ q : BW W7, q.w.cell? ⟨W3.heap.size, 37, none⟩ = some (.int .i64 3) := fun q => (cell_of_row q.w _ 37 _ _ (0, 0) (q.block r_a)).trans a1
  have k_b : ∀ q : BW W7, q.w.cell? ⟨W6.heap.size, 37, none⟩ = some (.int .i64 3) := fun q => (cell_of_row q.w _ 37 _ _ (0, 0) (q.block r_b)).trans a2
  have J1 := hide (fun q : BW W7 => K1.out _ _ _ _ (HS.out.below q.below))
  have J2 := hide (fun q : BW W7 => K2.out _ _ _ _ (HS.out.below q.below))
  have J3 := hide (fun q : BW W7 => K3.out _ _ _ _ (HS.out.below q.below))
  have J4 := hide (fun q : BW W7 => K4.out _ _ _ _ (HS.out.below q.below))
  go_upto_region 6 with (fail)
  have R_a : ∀ q : BW W7, q.w.heap[W3.heap.size]? = some (.cells (pinA kq1) 66 (0, 0)) := fun q => q.block r_a
  have R_b : ∀ q : BW W7, q.w.heap[W6.heap.size]? = some (.cells (pinA kq2) 66 (0, 0)) := fun q => q.block r_b
  first | refine wp_region_belowS W7 (Below.refl _ _) ?_ | refine wp_region_below W7 (Below.refl _ _) (by kernel_rfl) (by kernel_rfl) ?_
  (try simp only [List.append_eq, List.cons_append, List.nil_append])
  repeat
    first
    | (go_big_quiet_step (first
      | (go_at_call 31; with_reducible exact Calls.bel (J1.out _))
      | (go_at_call 31; with_reducible exact Calls.bel (J2.out _))
      | (go_at_call 37; with_reducible exact Calls.bel (J3.out _))
      | (go_at_call 33; with_reducible exact Calls.bel (J4.out _))
      | fail))
    | (go_big_quiet_want; apply quiet_span; (intro p; go_simp; rfl); (try simp only [Act.put, List.setIfInBounds_toArray, List.set_cons_zero, List.set_cons_succ]); go_big_quiet_on)
  refine wpQuiet_nil ?_
  intro _ hw'
  obtain ⟨pq8, hw''⟩ := hw'
  subst hw''
  clear R_a
  clear R_b
  obtain ⟨W8, b8⟩ := pq8
  dsimp only
  replace r_a := keepB b8 r_a
  replace r_b := keepB b8 r_b
  replace HS := hide (HS.out.below b8)
  replace HB := hide (HB.out.trans (b8.mono HB.out.size))
  clear b8
  go_wp2
  go_ret
  exact ⟨rfl, HB.out⟩
end Go.Proofs.Ytbkipfmnbfjkcaa
