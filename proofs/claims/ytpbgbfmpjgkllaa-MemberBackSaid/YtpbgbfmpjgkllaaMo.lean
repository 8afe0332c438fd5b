/-
  Somebody says how one is: Hear.
-/
import Derived.Test.YtpbgbfmpjgkllaaMn
namespace Go.Proofs.Ytpbgbfmpjgkllaa
open Go.RowKit
set_option maxRecDepth 100000
set_option linter.unusedVariables false
set_option linter.unusedSimpArgs false
attribute [local go_sem ↓] exec_span exec_put exec_build heap_alloc_new heap_old
attribute [local go_sem] spanQ_ptr spanC_some heap_of_drew heap_of_drewN putAt_ptr putOk_ptr oldOk_some World.setRow_alloc_new rs_inf rs_view

def hearR (l : List (Int × Int)) (me k : Int) (i : Int × Int) : Bool × Int × List (Int × Int) :=
  if hasV l k = true ∧ rightI i = true then (if k = me ∧ i.1 ≠ 0 then (denyB l me i.2, 0, denyL l me i.2) else if newerI i (getV l k) = true then (true, 0, l.set k.toNat i) else (false, 0, l)) else (false, 1, l)
theorem alloc_nam (w : World) (o : Obj) : ∃ W, w.alloc o = W ∧ W.heap[w.heap.size]? = some o ∧ W.heap.size = w.heap.size + 1 ∧ Below w.heap.size w W := alloc_nm w o
set_option maxHeartbeats 8000000 in
theorem hearV_any (w : World) (g b : Nat) (me : Int) (l : List (Int × Int)) (k : Int) (i : Int × Int) (h : ViewS w g b me l) (hm : hasV l me = true) :
    Calls Try.prog 18 #[.pointer (some ⟨g, 0, none⟩), .int .i64 k, infV i] w (TurnP w g b me (hearR l me k i).2.2 (.tuple #[.bool (hearR l me k i).1, .int .i64 (hearR l me k i).2.1])) := by
  have HF : Hid (∀ w' r E l', w.grownBy w' (some b) → hearR l me k i = (r, E, l') → ViewS w' g b me l' → TurnP w g b me (hearR l me k i).2.2 (.tuple #[.bool (hearR l me k i).1, .int .i64 (hearR l me k i).2.1]) (.returned (.tuple #[.bool r, .int .i64 E])) w') := hide fun w' r E l' hg hr hv => by rw [hr]; exact ⟨rfl, hv, hg⟩
  have E1 : Hid (hasV l k = false → hearR l me k i = (false, 1, l)) := hide fun e => by unfold hearR; rw [if_neg (by rw [e]; simp)]
  have E2 : Hid (rightI i = false → hearR l me k i = (false, 1, l)) := hide fun e => by unfold hearR; rw [if_neg (by rw [e]; simp)]
  have E3 : Hid (hasV l k = true → rightI i = true → k = me → i.1 ≠ 0 → hearR l me k i = (denyB l me i.2, 0, denyL l me i.2)) := hide fun e e' e2 e3 => by unfold hearR; rw [if_pos ⟨e, e'⟩, if_pos ⟨e2, e3⟩]
  have E4 : Hid (hasV l k = true → rightI i = true → ¬ (k = me ∧ i.1 ≠ 0) → newerI i (getV l k) = true → hearR l me k i = (true, 0, l.set k.toNat i)) := hide fun e e' e2 e3 => by unfold hearR; rw [if_pos ⟨e, e'⟩, if_neg e2, if_pos e3]
  have E5 : Hid (hasV l k = true → rightI i = true → ¬ (k = me ∧ i.1 ≠ 0) → newerI i (getV l k) = false → hearR l me k i = (false, 0, l)) := hide fun e e' e2 e3 => by unfold hearR; rw [if_pos ⟨e, e'⟩, if_neg e2, if_neg (by rw [e3]; simp)]
  have RI : Hid (rightI i = true → 0 ≤ i.2 ∧ i.2 ≤ 1099511627776) := hide fun e => by
    unfold rightI at e
    simp only [Bool.and_eq_true, decide_eq_true_eq] at e
    exact ⟨e.2.2.1, e.2.2.2⟩
  generalize hearR l me k i = RR at HF E1 E2 E3 E4 E5 ⊢
  obtain ⟨s, c⟩ := i
  have KR := hide (fun W => rightI_any W (s, c))
  have KN := hide (fun W => newerI_any W (s, c) (getV l k))
  unfold infV infA at KR KN ⊢
  dsimp only at E3 E4 E5 RI
  have HM := hide hm
  have KV := hide h
  clear h hm
  have HB0 := hide (Below.refl w.heap.size w)
  go_enter Try.func18, Try.ntmps18
  go_upto_region 1 with (fail)
  change Code.wp _ _ _ _ (w.alloc (.cells #[.int .i64 s, .int .i64 c] 24))
  obtain ⟨w1, hw1, r_i, z1, b1⟩ := alloc_nam w (.cells #[.int .i64 s, .int .i64 c] 24)
  rw [hw1]
  have L_i := hide (show w.heap.size < w1.heap.size by omega)
  have G'_i := HB0.out.size
  replace KV := hide (KV.out.below b1 (Nat.le_refl _))
  replace HB0 := hide (HB0.out.trans (b1.mono HB0.out.size))
  obtain ⟨g_i, hg1⟩ : ∃ g, g = w.heap.size := ⟨_, rfl⟩
  have G_i : Hid (w.heap.size ≤ g_i) := hide (by rw [hg1]; exact G'_i)
  clear G'_i
  rw [← hg1] at r_i L_i
  rw [← hg1]
  clear hw1 b1
  clear z1 hg1
  have KH := hide (hasV_any w1 g b me l k KV.out)
  obtain ⟨q1, hq1⟩ : ∃ q, q = hasV l k := ⟨_, rfl⟩
  obtain ⟨q2, hq2⟩ : ∃ q, q = rightI (s, c) := ⟨_, rfl⟩
  obtain ⟨q3, hq3⟩ : ∃ q, q = newerI (s, c) (getV l k) := ⟨_, rfl⟩
  have HK := hide hq1
  rw [← hq1] at KH E1 E3 E4 E5
  rw [← hq2] at KR E2 E3 E4 E5 RI
  rw [← hq3] at KN E4 E5
  clear hq1 hq2 hq3
  go_wp2_with fail
  refine KH.out.mono ?_
  rintro e w2 ⟨rfl, b1⟩
  dsimp only
  replace r_i := (b1.block g_i L_i.out).trans r_i
  replace L_i := hide (Nat.lt_of_lt_of_le L_i.out b1.size)
  replace KV := hide (KV.out.below b1 (Nat.le_refl _))
  replace HB0 := hide (HB0.out.trans (b1.mono HB0.out.size))
  clear b1 KH
  cases q1
  · go_wp2
    go_ret2
    exact HF.out _ _ _ _ (grown_ofB HB0.out (some b)) (E1.out (by first | rfl | trivial)) KV.out
  go_wp2_with fail
  refine (KR.out _).mono ?_
  rintro e w3 ⟨rfl, b2⟩
  dsimp only
  replace r_i := (b2.block g_i L_i.out).trans r_i
  replace L_i := hide (Nat.lt_of_lt_of_le L_i.out b2.size)
  replace KV := hide (KV.out.below b2 (Nat.le_refl _))
  replace HB0 := hide (HB0.out.trans (b2.mono HB0.out.size))
  clear b2 KR
  cases q2
  · go_wp2
    go_ret2
    exact HF.out _ _ _ _ (grown_ofB HB0.out (some b)) (E2.out (by first | rfl | trivial)) KV.out
  obtain ⟨c0, c1⟩ := KV.out.cells
  have i0 : w3.cell? ⟨g_i, 0, none⟩ = some (.int .i64 s) := (cell_of_row w3 g_i 0 _ _ (0, 0) r_i).trans rfl
  have i1 : w3.cell? ⟨g_i, 1, none⟩ = some (.int .i64 c) := (cell_of_row w3 g_i 1 _ _ (0, 0) r_i).trans rfl
  have RB := hide (RI.out (by first | rfl | trivial))
  by_cases e1 : k = me
  · have hkm : (k == me) = true := by simp [e1]
    by_cases e2 : s = 0
    · have hs0 : (s == 0) = true := by simp [e2]
      have hs1 : (s != 0) = false := by simp [e2]
      have HNE : Hid (¬ (k = me ∧ s ≠ 0)) := hide (fun hh => hh.2 e2)
      clear e2 e1
      have RX : ∀ p : BW w3, p.w.heap[g_i]? = some (.cells #[.int .i64 s, .int .i64 c] 24 (0, 0)) := fun p => p.block r_i
      have R1 : ∀ p : BW w3, p.w.cell? ⟨g, 1, none⟩ = some (.map (some b)) := fun p => p.cell c1
      have RL : ∀ p : BW w3, (Instr.lookup 73 (.map (some b)) (.int .i64 k) false).run Try.prog p.w = .ok (.agg #[.int .i64 (getV l k).1, .int .i64 (getV l k).2]) p.w := fun p => view_look (KV.out.bw p) k
      go_upto_region 7 with (fail)
      first | refine wp_region_belowS w3 (Below.refl _ _) ?_ | refine wp_region_below w3 (Below.refl _ _) (by kernel_rfl) (by kernel_rfl) ?_
      repeat
        first
        | (go_big_quiet_step (first
        | ((go_at_call 10; with_reducible exact Calls.bel (KN.out _)))
        | fail))
        | (go_big_quiet_want; apply quiet_span; (intro p; go_simp; rfl); (try simp only [Act.put, List.setIfInBounds_toArray, List.set_cons_zero, List.set_cons_succ]); go_big_quiet_on)
      refine wpQuiet_nil ?_
      intro _ hw'
      obtain ⟨pq, hw''⟩ := hw'
      subst hw''
      clear RX R1 RL c0 c1 i0 i1
      obtain ⟨w20, hw20⟩ : ∃ w1, w1 = pq.w := ⟨_, rfl⟩
      have b20 := pq.below
      rw [← hw20] at b20 ⊢
      replace r_i := (b20.block g_i L_i.out).trans r_i
      replace L_i := hide (Nat.lt_of_lt_of_le L_i.out b20.size)
      replace KV := hide (KV.out.below b20 (Nat.le_refl _))
      replace HB0 := hide (HB0.out.trans (b20.mono HB0.out.size))
      clear b20 hw20 pq KN
      cases q3
      · go_wp2
        go_ret2
        exact HF.out _ _ _ _ (grown_ofB HB0.out (some b)) (E5.out (by first | rfl | trivial) (by first | rfl | trivial) HNE.out (by first | rfl | trivial)) KV.out
      obtain ⟨ob, hst, hv⟩ := view_store KV.out.drew HK.out.symm (s, c)
      unfold infV infA at hst
      have HS := hide hv
      clear hv
      have c1' : w20.drew.cell? ⟨g, 1, none⟩ = some (.map (some b)) := KV.out.cells.2
      have ri' : w20.drew.heap[g_i]? = some (.cells #[.int .i64 s, .int .i64 c] 24 (0, 0)) := r_i
      go_upto_region 9 with (fail)
      go_still_tail 6, (by kernel_rfl)
      have HG2 : Hid (w.grownBy (w20.drew.putObj b ob) (some b)) := hide ((World.grownBy.trans (grown_ofB HB0.out (some b)) (grown_drew w20 (some b))).trans (grown_putObj _ b ob))
      go_wp2
      go_ret2
      exact HF.out _ _ _ _ HG2.out (E4.out (by first | rfl | trivial) (by first | rfl | trivial) HNE.out (by first | rfl | trivial)) HS.out
    · have hs1 : (s != 0) = true := by simpa using e2
      have hs0 : (s == 0) = false := by simpa using e2
      have HE := hide (E3.out (by first | rfl | trivial) (by first | rfl | trivial) e1 e2)
      clear e2 e1
      have KD := hide (denyV_any w3 g b me l c KV.out HM.out RB.out.1 RB.out.2)
      go_wp2_with fail
      refine KD.out.mono ?_
      rintro e wd ⟨rfl, hv, hg⟩
      dsimp only
      have HV := hide hv
      have HG := hide (World.grownBy.trans (grown_ofB HB0.out (some b)) hg)
      clear hv hg KD
      go_wp2
      go_ret2
      exact HF.out _ _ _ _ HG.out HE.out HV.out
  · have hkm : (k == me) = false := by simpa using e1
    have HNE : Hid (¬ (k = me ∧ s ≠ 0)) := hide (fun hh => e1 hh.1)
    clear e1
    have RX : ∀ p : BW w3, p.w.heap[g_i]? = some (.cells #[.int .i64 s, .int .i64 c] 24 (0, 0)) := fun p => p.block r_i
    have R1 : ∀ p : BW w3, p.w.cell? ⟨g, 1, none⟩ = some (.map (some b)) := fun p => p.cell c1
    have RL : ∀ p : BW w3, (Instr.lookup 73 (.map (some b)) (.int .i64 k) false).run Try.prog p.w = .ok (.agg #[.int .i64 (getV l k).1, .int .i64 (getV l k).2]) p.w := fun p => view_look (KV.out.bw p) k
    go_upto_region 7 with (fail)
    first | refine wp_region_belowS w3 (Below.refl _ _) ?_ | refine wp_region_below w3 (Below.refl _ _) (by kernel_rfl) (by kernel_rfl) ?_
    repeat
      first
      | (go_big_quiet_step (first
      | ((go_at_call 10; with_reducible exact Calls.bel (KN.out _)))
      | fail))
      | (go_big_quiet_want; apply quiet_span; (intro p; go_simp; rfl); (try simp only [Act.put, List.setIfInBounds_toArray, List.set_cons_zero, List.set_cons_succ]); go_big_quiet_on)
    refine wpQuiet_nil ?_
    intro _ hw'
    obtain ⟨pq, hw''⟩ := hw'
    subst hw''
    clear RX R1 RL c0 c1 i0 i1
    obtain ⟨w20, hw20⟩ : ∃ w1, w1 = pq.w := ⟨_, rfl⟩
    have b20 := pq.below
    rw [← hw20] at b20 ⊢
    replace r_i := (b20.block g_i L_i.out).trans r_i
    replace L_i := hide (Nat.lt_of_lt_of_le L_i.out b20.size)
    replace KV := hide (KV.out.below b20 (Nat.le_refl _))
    replace HB0 := hide (HB0.out.trans (b20.mono HB0.out.size))
    clear b20 hw20 pq KN
    cases q3
    · go_wp2
      go_ret2
      exact HF.out _ _ _ _ (grown_ofB HB0.out (some b)) (E5.out (by first | rfl | trivial) (by first | rfl | trivial) HNE.out (by first | rfl | trivial)) KV.out
    obtain ⟨ob, hst, hv⟩ := view_store KV.out.drew HK.out.symm (s, c)
    unfold infV infA at hst
    have HS := hide hv
    clear hv
    have c1' : w20.drew.cell? ⟨g, 1, none⟩ = some (.map (some b)) := KV.out.cells.2
    have ri' : w20.drew.heap[g_i]? = some (.cells #[.int .i64 s, .int .i64 c] 24 (0, 0)) := r_i
    go_upto_region 9 with (fail)
    go_still_tail 6, (by kernel_rfl)
    have HG2 : Hid (w.grownBy (w20.drew.putObj b ob) (some b)) := hide ((World.grownBy.trans (grown_ofB HB0.out (some b)) (grown_drew w20 (some b))).trans (grown_putObj _ b ob))
    go_wp2
    go_ret2
    exact HF.out _ _ _ _ HG2.out (E4.out (by first | rfl | trivial) (by first | rfl | trivial) HNE.out (by first | rfl | trivial)) HS.out
end Go.Proofs.Ytpbgbfmpjgkllaa
