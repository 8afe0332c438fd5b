/-
  With one's vote: Voted.
-/
import Derived.Test.YtmbddengmheeeaaLgb
import Derived.Test.YtmbddengmheeeaaLfx
import Derived.Test.YtmbddengmheeeaaQc
import Derived.Deep.RegionLaw
namespace Go.Proofs.Ytmbddengmheeeaa
open Go.RowKit
set_option maxRecDepth 100000
set_option linter.unusedVariables false
set_option linter.unusedSimpArgs false
attribute [local go_sem ↓] exec_span exec_put exec_build heap_alloc_new heap_old
attribute [local go_sem] spanQ_ptr spanC_some heap_of_drew heap_of_drewN rs_ad rs_spec rs_rec rs_vote putAt_ptr putOk_ptr oldOk_some store_fl World.setRow_alloc_new

theorem made_votes (m : Nat) : (madeCells #[.int .i64 0, .bool false] (m * 2)).toList = voC (List.replicate m (0, false)) := by
  induction m with
  | zero => simp [madeCells, voC]
  | succ m ih =>
    rw [List.replicate_succ', voC_snoc, ← ih]
    have e : (m + 1) * 2 = m * 2 + 1 + 1 := by omega
    have e1 : (m * 2) % 2 = 0 := by omega
    have e2 : (m * 2 + 1) % 2 = 1 := by omega
    simp [madeCells, e, List.range_succ, e1, e2]
theorem splice_vote (n : Nat) (v : Int × Bool) : splice (voC (List.replicate (n + 1) (0, false))) (n * 2) [.int .i64 v.1, .bool v.2] = voC (loneV n v) := by
  have hl : (voC (List.replicate n (0, false))).length = n * 2 := by rw [voC_len, List.length_replicate]
  unfold splice loneV
  rw [List.replicate_succ', voC_snoc, voC_snoc, List.take_append_of_le_length (by omega), List.take_of_length_le (by omega), List.drop_of_length_le (by simp [hl]), List.append_nil]
theorem set_vote (n : Nat) (v : Int × Bool) : ((voC (List.replicate (n + 1) (0, false))).toArray.setIfInBounds (n * 2) (.int .i64 v.1)).setIfInBounds (n * 2 + 1) (.bool v.2) = (voC (loneV n v)).toArray := by
  have hl : (voC (List.replicate n (0, false))).length = n * 2 := by rw [voC_len, List.length_replicate]
  rw [List.setIfInBounds_toArray, List.setIfInBounds_toArray]
  congr 1
  unfold loneV
  rw [List.replicate_succ', voC_snoc, voC_snoc, List.set_append_right _ _ (by omega), List.set_append_right _ _ (by omega), hl, Nat.sub_self, show n * 2 + 1 - n * 2 = 1 by omega]
  rfl
def votedOk (k : Kn) (n : Int) (v : Int × Bool) : Bool := okK k && (nodeB n && (decide (v.1 ≥ 1) && decide (v.1 ≤ 1099511627776)))
def votedT (k : Kn) (n : Int) (v : Int × Bool) : Kn := if votedOk k n v = true then (if k.g = 0 then zKn else votedK k n.toNat v) else zKn
def votedE (k : Kn) (n : Int) (v : Int × Bool) : Int := if votedOk k n v = true then (if k.g = 0 then 5 else joinE k (withV k (loneV n.toNat v))) else 1
/-- the walk of Voted -/
theorem built_rec00 : Try.prog.built 34 [] = some (rcL zRcd).toArray := by kernel_rfl
theorem kn_lone {w : World} {X : Array Value} {k : Kn} {va : Option Addr} {vc n : Nat} {v : Int × Bool} {g : Nat} (h : RcV X (k.rc va vc)) (hn : n < 16) (hg : w.heap[g]? = some (.cells (voC (loneV n v)).toArray 46 (0, 0))) :
    KnV w w.heap.size (X.setIfInBounds 22 (.slice (some ⟨g, 0, none⟩) (n + 1) (n + 1))) (withV k (loneV n v)) (some ⟨g, 0, none⟩) (n + 1) := by
  refine ⟨?_, ?_, ?_, (fun e => by cases e), ?_⟩
  · refine ⟨?_, h.la, h.wf⟩
    rw [h.eq, List.setIfInBounds_toArray]
    congr 1
    have hl := len_spL h.la
    simp only [Kn.rc] at hl
    simp only [rcL, Kn.rc, List.set_cons_succ]
    rw [List.set_append_right _ _ (by omega), hl]
    have : (withV k (loneV n v)).vs.length = n + 1 := loneV_len n v
    rw [this]; rfl
  · intro _
    refine ⟨g, 0, rfl, (Array.getElem?_eq_some_iff.1 hg).1, fun i hi => ?_⟩
    obtain ⟨h1, h2⟩ := voC_get (loneV n v) i hi
    rw [Nat.zero_add]
    exact ⟨(cell_of_row w g _ _ _ (0, 0) hg).trans (by rw [List.getElem?_toArray]; exact h1), (cell_of_row w g _ _ _ (0, 0) hg).trans (by rw [List.getElem?_toArray]; exact h2)⟩
  · show (loneV n v).length ≤ _; rw [loneV_len]; omega
  · show (loneV n v).length ≤ _; rw [loneV_len]; exact Nat.le_refl _
set_option maxHeartbeats 16000000 in
theorem voted_any (w : World) (X : Array Value) (k : Kn) (va : Option Addr) (vc : Nat) (n : Int) (v : Int × Bool) (h : KnV w w.heap.size X k va vc) :
    Calls Try.prog 16 #[.agg X, .int .i64 n, voV v] w (JoinP w (votedT k n v) (votedE k n v)) := by
  have hno : votedOk k n v = false → votedT k n v = zKn ∧ votedE k n v = 1 := fun e => by unfold votedT votedE; rw [e]; exact ⟨rfl, rfl⟩
  have hzero : votedOk k n v = true → k.g = 0 → votedT k n v = zKn ∧ votedE k n v = 5 := fun e e' => by unfold votedT votedE; rw [if_pos e, if_pos e', if_pos e, if_pos e']; exact ⟨rfl, rfl⟩
  have hyes : votedOk k n v = true → k.g ≠ 0 → votedT k n v = votedK k n.toNat v ∧ votedE k n v = joinE k (withV k (loneV n.toNat v)) := fun e e' => by unfold votedT votedE; rw [if_pos e, if_neg e', if_pos e, if_neg e']; exact ⟨rfl, rfl⟩
  have hok : votedOk k n v = (okK k && (nodeB n && (decide (v.1 ≥ 1) && decide (v.1 ≤ 1099511627776)))) := rfl
  generalize votedT k n v = J at hno hzero hyes ⊢
  generalize votedE k n v = E at hno hzero hyes ⊢
  generalize votedOk k n v = ok at hno hzero hyes hok
  obtain ⟨s, o⟩ := v
  unfold voV
  dsimp only at hok hyes ⊢
  have H := hide h
  have HNO := hide hno
  have HZE := hide hzero
  have HYE := hide hyes
  have HOK := hide hok
  have xs := h.rc.size
  have xx := h.rc.x0
  have xo := h.rc.one
  have xc := h.rc
  clear hno hzero hyes hok h
  have HB0 := hide (Below.refl w.heap.size w)
  have ZS : (rcL zRcd).toArray.size = 24 := by simp [rcL, spL, adL, zRcd, zSp]
  have ZO : allOne (rcL zRcd).toArray = true := ((zKn_ok w).rc).one
  have hbu := built_rec00
  have RZ : Hid (∀ W1, Below w.heap.size w W1 → RecP w zKn (rcL zRcd).toArray W1) := hide fun W1 hb => RecP.zero hb
  go_enter Try.func16, Try.ntmps16
  go_upto_region 1 with (fail)
  change Code.wp _ _ _ _ (((w.alloc (.cells X 34)).alloc (.cells #[.int .i64 s, .bool o] 46)).alloc (.cells (rcL zRcd).toArray 34))
  generalize (rcL zRcd).toArray = Z at *
  obtain ⟨w1, hw1, r_x, z1, b1⟩ := alloc_nam w (.cells X 34)
  rw [hw1]
  have L_x := hide (show w.heap.size < w1.heap.size by omega)
  have G'_x := HB0.out.size
  replace HB0 := hide (HB0.out.trans (b1.mono HB0.out.size))
  obtain ⟨g_x, hg1⟩ : ∃ g, g = w.heap.size := ⟨_, rfl⟩
  have G_x : Hid (w.heap.size ≤ g_x) := hide (by rw [hg1]; exact G'_x)
  clear G'_x
  rw [← hg1] at r_x L_x
  rw [← hg1]
  clear hw1 b1
  obtain ⟨w2, hw2, r_v, z2, b2⟩ := alloc_nam w1 (.cells #[.int .i64 s, .bool o] 46)
  rw [hw2]
  have L_v := hide (show w1.heap.size < w2.heap.size by omega)
  have G'_v := HB0.out.size
  have D_x_v := L_x
  replace r_x := (b2.block g_x L_x.out).trans r_x
  replace L_x := hide (Nat.lt_of_lt_of_le L_x.out b2.size)
  replace HB0 := hide (HB0.out.trans (b2.mono HB0.out.size))
  obtain ⟨g_v, hg2⟩ : ∃ g, g = w1.heap.size := ⟨_, rfl⟩
  have G_v : Hid (w.heap.size ≤ g_v) := hide (by rw [hg2]; exact G'_v)
  clear G'_v
  rw [← hg2] at r_v L_v D_x_v
  rw [show g_x + 1 = g_v by omega]
  clear hw2 b2
  obtain ⟨w3, hw3, r_r, z3, b3⟩ := alloc_nam w2 (.cells Z 34)
  rw [hw3]
  have L_r := hide (show w2.heap.size < w3.heap.size by omega)
  have G'_r := HB0.out.size
  have D_x_r := L_x
  have D_v_r := L_v
  replace r_x := (b3.block g_x L_x.out).trans r_x
  replace L_x := hide (Nat.lt_of_lt_of_le L_x.out b3.size)
  replace r_v := (b3.block g_v L_v.out).trans r_v
  replace L_v := hide (Nat.lt_of_lt_of_le L_v.out b3.size)
  replace HB0 := hide (HB0.out.trans (b3.mono HB0.out.size))
  obtain ⟨g_r, hg3⟩ : ∃ g, g = w2.heap.size := ⟨_, rfl⟩
  have G_r : Hid (w.heap.size ≤ g_r) := hide (by rw [hg3]; exact G'_r)
  clear G'_r
  rw [← hg3] at r_r L_r D_x_r D_v_r
  rw [show g_v + 1 = g_r by omega]
  clear hw3 b3
  clear z1 hg1 z2 hg2 z3 hg3
  have FB := hide HB0.out
  have KR := hide (fun p : BW w3 => rightK_any p.w w.heap.size X k va vc ((H.out.below (FB.out.trans (p.below.mono FB.out.size)) (Nat.le_refl _))) (Nat.le_trans FB.out.size p.below.size))
  have KN := hide (fun p : BW w3 => rightNode_any p.w n)
  have RX : ∀ p : BW w3, p.w.heap[g_x]? = some (.cells X 34 (0, 0)) := fun p => p.block r_x
  have s0 := cell_of_row w3 g_v 0 _ _ (0, 0) r_v
  have s1 : w3.cell? ⟨g_v, 0, none⟩ = some (.int .i64 s) := s0
  have S0 : ∀ p : BW w3, p.w.cell? ⟨g_v, 0, none⟩ = some (.int .i64 s) := fun p => p.cell s1
  clear s0 s1
  obtain ⟨q1, hq1⟩ : ∃ q, q = okK k := ⟨_, rfl⟩
  obtain ⟨q2, hq2⟩ : ∃ q, q = nodeB n := ⟨_, rfl⟩
  obtain ⟨q3, hq3⟩ : ∃ q, q = decide (s ≥ 1) := ⟨_, rfl⟩
  obtain ⟨q4, hq4⟩ : ∃ q, q = decide (s ≤ 1099511627776) := ⟨_, rfl⟩
  rw [← hq1] at KR
  rw [← hq2] at KN
  rw [← hq1, ← hq2, ← hq3, ← hq4] at HOK
  have g3 : decide (s < 1) = !q3 := by rw [hq3]; by_cases e : s < 1 <;> simp [e] <;> omega
  have g4 : decide (1099511627776 < s) = !q4 := by rw [hq4]; by_cases e : 1099511627776 < s <;> simp [e] <;> omega
  have g4' : decide (s > 1099511627776) = !q4 := g4
  have Q2 := hide hq2
  have Q1 := hide hq1
  have Q3 := hide hq3
  have Q4 := hide hq4
  clear hq1 hq2 hq3 hq4
  have BF : Hid (∀ p : BW w3, Below w.heap.size w p.w) := hide fun p => FB.out.trans (p.below.mono FB.out.size)
  have BR : ∀ p : BW w3, p.w.heap[g_r]? = some (.cells Z 34 (0, 0)) := fun p => p.block r_r
  have BV : ∀ p : BW w3, p.w.heap[g_v]? = some (.cells #[.int .i64 s, .bool o] 46 (0, 0)) := fun p => p.block r_v
  cases q1
  · have hj := HNO.out (by rw [HOK.out]; rfl)
    first | refine wp_region_belowS w3 (Below.refl _ _) ?_ | refine wp_region_below w3 (Below.refl _ _) (by kernel_rfl) (by kernel_rfl) ?_
    repeat
      first
      | (go_big_quiet_step (first
      | ((go_at_call 11; with_reducible exact Calls.bel (KR.out _)))
      | fail))
      | (go_big_quiet_want; apply quiet_span; (intro p; go_simp; rfl); (try simp only [Act.put, List.setIfInBounds_toArray, List.set_cons_zero, List.set_cons_succ]); go_big_quiet_on)
    refine wpQuiet_nil ?_
    intro _ hw'
    obtain ⟨pq, hw''⟩ := hw'
    subst hw''
    have rr := BR pq
    have HE := hide (And.intro hj.1 hj.2)
    have bb := hide (BF.out pq)
    clear hj RX S0 BR BV r_x r_v r_r
    go_wp2
    refine bodyPost_ret (results_cell_tmp (fn := Try.f16) Try.results16 _ _ g_r 34 Z (0, 0) _ rfl (setRow_heap pq.w _ _ _ _ _ rr) Try.underlying34 rfl (by rw [ZS]; exact info_rec)) rfl ?_
    rw [HE.out.1, HE.out.2]
    exact ⟨Z, rfl, RZ.out _ (below_setRow bb.out G_r.out _)⟩
  cases q2
  · have hj := HNO.out (by rw [HOK.out]; rfl)
    first | refine wp_region_belowS w3 (Below.refl _ _) ?_ | refine wp_region_below w3 (Below.refl _ _) (by kernel_rfl) (by kernel_rfl) ?_
    repeat
      first
      | (go_big_quiet_step (first
      | ((go_at_call 11; with_reducible exact Calls.bel (KR.out _)))
      | ((go_at_call 52; with_reducible exact Calls.bel_same (KN.out _)))
      | fail))
      | (go_big_quiet_want; apply quiet_span; (intro p; go_simp; rfl); (try simp only [Act.put, List.setIfInBounds_toArray, List.set_cons_zero, List.set_cons_succ]); go_big_quiet_on)
    refine wpQuiet_nil ?_
    intro _ hw'
    obtain ⟨pq, hw''⟩ := hw'
    subst hw''
    have rr := BR pq
    have HE := hide (And.intro hj.1 hj.2)
    have bb := hide (BF.out pq)
    clear hj RX S0 BR BV r_x r_v r_r
    go_wp2
    refine bodyPost_ret (results_cell_tmp (fn := Try.f16) Try.results16 _ _ g_r 34 Z (0, 0) _ rfl (setRow_heap pq.w _ _ _ _ _ rr) Try.underlying34 rfl (by rw [ZS]; exact info_rec)) rfl ?_
    rw [HE.out.1, HE.out.2]
    exact ⟨Z, rfl, RZ.out _ (below_setRow bb.out G_r.out _)⟩
  cases q3
  · have hj := HNO.out (by rw [HOK.out]; rfl)
    first | refine wp_region_belowS w3 (Below.refl _ _) ?_ | refine wp_region_below w3 (Below.refl _ _) (by kernel_rfl) (by kernel_rfl) ?_
    repeat
      first
      | (go_big_quiet_step (first
      | ((go_at_call 11; with_reducible exact Calls.bel (KR.out _)))
      | ((go_at_call 52; with_reducible exact Calls.bel_same (KN.out _)))
      | fail))
      | (go_big_quiet_want; apply quiet_span; (intro p; go_simp; rfl); (try simp only [Act.put, List.setIfInBounds_toArray, List.set_cons_zero, List.set_cons_succ]); go_big_quiet_on)
    refine wpQuiet_nil ?_
    intro _ hw'
    obtain ⟨pq, hw''⟩ := hw'
    subst hw''
    have rr := BR pq
    have HE := hide (And.intro hj.1 hj.2)
    have bb := hide (BF.out pq)
    clear hj RX S0 BR BV r_x r_v r_r
    go_wp2
    refine bodyPost_ret (results_cell_tmp (fn := Try.f16) Try.results16 _ _ g_r 34 Z (0, 0) _ rfl (setRow_heap pq.w _ _ _ _ _ rr) Try.underlying34 rfl (by rw [ZS]; exact info_rec)) rfl ?_
    rw [HE.out.1, HE.out.2]
    exact ⟨Z, rfl, RZ.out _ (below_setRow bb.out G_r.out _)⟩
  cases q4
  · have hj := HNO.out (by rw [HOK.out]; rfl)
    first | refine wp_region_belowS w3 (Below.refl _ _) ?_ | refine wp_region_below w3 (Below.refl _ _) (by kernel_rfl) (by kernel_rfl) ?_
    repeat
      first
      | (go_big_quiet_step (first
      | ((go_at_call 11; with_reducible exact Calls.bel (KR.out _)))
      | ((go_at_call 52; with_reducible exact Calls.bel_same (KN.out _)))
      | fail))
      | (go_big_quiet_want; apply quiet_span; (intro p; go_simp; rfl); (try simp only [Act.put, List.setIfInBounds_toArray, List.set_cons_zero, List.set_cons_succ]); go_big_quiet_on)
    refine wpQuiet_nil ?_
    intro _ hw'
    obtain ⟨pq, hw''⟩ := hw'
    subst hw''
    have rr := BR pq
    have HE := hide (And.intro hj.1 hj.2)
    have bb := hide (BF.out pq)
    clear hj RX S0 BR BV r_x r_v r_r
    go_wp2
    refine bodyPost_ret (results_cell_tmp (fn := Try.f16) Try.results16 _ _ g_r 34 Z (0, 0) _ rfl (setRow_heap pq.w _ _ _ _ _ rr) Try.underlying34 rfl (by rw [ZS]; exact info_rec)) rfl ?_
    rw [HE.out.1, HE.out.2]
    exact ⟨Z, rfl, RZ.out _ (below_setRow bb.out G_r.out _)⟩
  have hok : ok = true := by rw [HOK.out]; rfl
  have NB := hide Q2.out
  first | refine wp_region_belowS w3 (Below.refl _ _) ?_ | refine wp_region_below w3 (Below.refl _ _) (by kernel_rfl) (by kernel_rfl) ?_
  repeat
    first
    | (go_big_quiet_step (first
    | ((go_at_call 11; with_reducible exact Calls.bel (KR.out _)))
    | ((go_at_call 52; with_reducible exact Calls.bel_same (KN.out _)))
    | fail))
    | (go_big_quiet_want; apply quiet_span; (intro p; go_simp; rfl); (try simp only [Act.put, List.setIfInBounds_toArray, List.set_cons_zero, List.set_cons_succ]); go_big_quiet_on)
  refine wpQuiet_nil ?_
  intro _ hw'
  obtain ⟨pq, hw''⟩ := hw'
  subst hw''
  clear RX S0 BR BV KR KN BF
  obtain ⟨w10, hw10⟩ : ∃ w1, w1 = pq.w := ⟨_, rfl⟩
  have b10 := pq.below
  rw [← hw10] at b10 ⊢
  replace r_x := (b10.block g_x L_x.out).trans r_x
  replace L_x := hide (Nat.lt_of_lt_of_le L_x.out b10.size)
  replace r_v := (b10.block g_v L_v.out).trans r_v
  replace L_v := hide (Nat.lt_of_lt_of_le L_v.out b10.size)
  replace r_r := (b10.block g_r L_r.out).trans r_r
  replace L_r := hide (Nat.lt_of_lt_of_le L_r.out b10.size)
  replace HB0 := hide (HB0.out.trans (b10.mono HB0.out.size))
  clear b10 hw10 pq
  obtain ⟨c0, -, -, -⟩ := xc.cells r_x
  simp only [Kn.rc] at c0
  obtain ⟨kg, hkg⟩ : ∃ x, x = k.g := ⟨_, rfl⟩
  rw [← hkg] at c0 HZE HYE
  by_cases e0 : kg = 0
  · have hj := HZE.out hok e0
    subst e0
    clear hkg hok
    have HE := hide (And.intro hj.1 hj.2)
    clear hj
    go_wp2
    refine bodyPost_ret (results_cell_tmp (fn := Try.f16) Try.results16 _ _ g_r 34 Z (0, 0) _ rfl (setRow_heap w10 _ _ _ _ _ r_r) Try.underlying34 rfl (by rw [ZS]; exact info_rec)) rfl ?_
    rw [HE.out.1, HE.out.2]
    exact ⟨Z, rfl, RZ.out _ (below_setRow HB0.out G_r.out _)⟩
  have hj := HYE.out hok e0
  have HE := hide (And.intro hj.1 hj.2)
  have N0 := NB.out
  clear hj hok hkg
  have N1 : 0 ≤ n ∧ n < 16 := by have := N0.symm; unfold nodeB at this; simpa using this
  obtain ⟨m, rfl⟩ : ∃ m : Nat, n = (m : Int) := ⟨n.toNat, by omega⟩
  have hm : m < 16 := by omega
  rw [Int.toNat_natCast] at HE
  obtain ⟨i0, hi, hz0, hz1, hz2⟩ := info_parts info_vote
  have hmk : Hid (∀ w1 : World, (Instr.makeSlice 32 (.int .i64 ((m : Int) + 1)) (.int .i64 ((m : Int) + 1))).run Try.prog w1 = .ok (.slice (some ⟨w1.heap.size, 0, none⟩) (m + 1) (m + 1)) (w1.alloc (.cells (voC (List.replicate (m + 1) (0, false))).toArray 46))) := hide fun w1 => by
    have h := run_make (P := Try.prog) w1 32 46 i0 _ Try.underlying32 hi hz0 .i64 .i64 ((m + 1 : Nat) : Int) ((m + 1 : Nat) : Int) (by omega) (by omega) (by rw [hz2]; omega) (by omega)
    simp only [Int.toNat_natCast, hz1] at h
    rw [show ((m : Int) + 1) = ((m + 1 : Nat) : Int) by omega, h]
    congr 3
    have := made_votes (m + 1)
    rw [← this]
    simp [Value.cells]
  clear hi hz0 hz1 hz2 N0 N1
  go_upto_region 6 with (fail)
  obtain ⟨w4, hw4, r_w, z4, b4⟩ := alloc_nam w10 (.cells X 34)
  rw [hw4]
  have L_w := hide (show w10.heap.size < w4.heap.size by omega)
  have G'_w := HB0.out.size
  have D_x_w := L_x
  have D_v_w := L_v
  have D_r_w := L_r
  replace r_x := (b4.block g_x L_x.out).trans r_x
  replace L_x := hide (Nat.lt_of_lt_of_le L_x.out b4.size)
  replace r_v := (b4.block g_v L_v.out).trans r_v
  replace L_v := hide (Nat.lt_of_lt_of_le L_v.out b4.size)
  replace r_r := (b4.block g_r L_r.out).trans r_r
  replace L_r := hide (Nat.lt_of_lt_of_le L_r.out b4.size)
  replace HB0 := hide (HB0.out.trans (b4.mono HB0.out.size))
  obtain ⟨g_w, hg4⟩ : ∃ g, g = w10.heap.size := ⟨_, rfl⟩
  have G_w : Hid (w.heap.size ≤ g_w) := hide (by rw [hg4]; exact G'_w)
  clear G'_w
  rw [← hg4] at r_w L_w D_x_w D_v_w D_r_w ⊢
  clear hw4 z4 b4 hg4
  obtain ⟨-, -, c22, -⟩ := xc.cells r_w
  simp only [Kn.rc] at c22
  have f22 := frozen_of_row w4 g_w 22 _ _ r_w
  have hmk1 := hmk.out w4
  have c22a : ∀ o, (w4.alloc o).cell? ⟨g_w, 22, none⟩ = some (.slice va k.vs.length vc) := fun o => (World.cell?_alloc_lt w4 o ⟨g_w, 22, none⟩ L_w.out).trans c22
  have hrya : ∀ o, (w4.alloc o).heap[g_w]? = some (.cells X 34 (0, 0)) := fun o => (heap_alloc_old w4 o L_w.out).trans r_w
  have f22a : ∀ o, (w4.alloc o).frozen? ⟨g_w, 22, none⟩ = false := fun o => frozen_of_row _ g_w 22 _ _ (hrya o)
  go_upto_region 7 with (fail)
  clear c22a hrya f22a hmk1 hmk c22 f22
  obtain ⟨w5, hw5, r_m, z5, b5⟩ := alloc_nam w4 (.cells (voC (List.replicate (m + 1) (0, false))).toArray 46)
  rw [hw5]
  have L_m := hide (show w4.heap.size < w5.heap.size by omega)
  have G'_m := HB0.out.size
  have D_x_m := L_x
  have D_v_m := L_v
  have D_r_m := L_r
  have D_w_m := L_w
  replace r_x := (b5.block g_x L_x.out).trans r_x
  replace L_x := hide (Nat.lt_of_lt_of_le L_x.out b5.size)
  replace r_v := (b5.block g_v L_v.out).trans r_v
  replace L_v := hide (Nat.lt_of_lt_of_le L_v.out b5.size)
  replace r_r := (b5.block g_r L_r.out).trans r_r
  replace L_r := hide (Nat.lt_of_lt_of_le L_r.out b5.size)
  replace r_w := (b5.block g_w L_w.out).trans r_w
  replace L_w := hide (Nat.lt_of_lt_of_le L_w.out b5.size)
  replace HB0 := hide (HB0.out.trans (b5.mono HB0.out.size))
  obtain ⟨g_m, hg5⟩ : ∃ g, g = w4.heap.size := ⟨_, rfl⟩
  have G_m : Hid (w.heap.size ≤ g_m) := hide (by rw [hg5]; exact G'_m)
  clear G'_m
  rw [← hg5] at r_m L_m D_x_m D_v_m D_r_m D_w_m ⊢
  clear hw5 z5 b5 hg5
  rw [setCell_eq_setRow w5 g_w 22 X 34 (0, 0) _ r_w]
  obtain ⟨Y, hY⟩ : ∃ Y, Y = X.setIfInBounds 22 (.slice (some ⟨g_m, 0, none⟩) (m + 1) (m + 1)) := ⟨_, rfl⟩
  rw [← hY]
  obtain ⟨w6, hw6⟩ : ∃ W, W = w5.setRow g_w Y := ⟨_, rfl⟩
  rw [← hw6]
  replace r_x : w6.heap[g_x]? = some (.cells X 34 (0, 0)) := by rw [hw6, setRow_other _ _ _ _ (by have := D_x_w.out; omega)]; exact r_x
  replace L_x : Hid (g_x < w6.heap.size) := hide (by rw [hw6, setRow_size]; exact L_x.out)
  replace r_v : w6.heap[g_v]? = some (.cells #[.int .i64 s, .bool o] 46 (0, 0)) := by rw [hw6, setRow_other _ _ _ _ (by have := D_v_w.out; omega)]; exact r_v
  replace L_v : Hid (g_v < w6.heap.size) := hide (by rw [hw6, setRow_size]; exact L_v.out)
  replace r_r : w6.heap[g_r]? = some (.cells Z 34 (0, 0)) := by rw [hw6, setRow_other _ _ _ _ (by have := D_r_w.out; omega)]; exact r_r
  replace L_r : Hid (g_r < w6.heap.size) := hide (by rw [hw6, setRow_size]; exact L_r.out)
  replace r_w : w6.heap[g_w]? = some (.cells Y 34 (0, 0)) := by rw [hw6]; exact setRow_heap _ _ _ _ _ _ r_w
  replace L_w : Hid (g_w < w6.heap.size) := hide (by rw [hw6, setRow_size]; exact L_w.out)
  replace r_m : w6.heap[g_m]? = some (.cells (voC (List.replicate (m + 1) (0, false))).toArray 46 (0, 0)) := by rw [hw6, setRow_other _ _ _ _ (by have := D_w_m.out; omega)]; exact r_m
  replace L_m : Hid (g_m < w6.heap.size) := hide (by rw [hw6, setRow_size]; exact L_m.out)
  replace HB0 : Hid (Below w.heap.size w w6) := hide (by rw [hw6]; exact below_setRow HB0.out G_w.out _)
  clear hw6
  have d22 : w6.cell? ⟨g_w, 22, none⟩ = some (.slice (some ⟨g_m, 0, none⟩) (m + 1) (m + 1)) := (cell_of_row w6 g_w 22 Y 34 (0, 0) r_w).trans (by rw [hY, Array.getElem?_setIfInBounds_self_of_lt (by rw [xs]; decide)])
  have hsz : ((voC (List.replicate (m + 1) (0, false))).toArray).size = (m + 1) * 2 := by simp [voC_len]
  have m1 : ∃ u, w6.cell? ⟨g_m, m * 2, none⟩ = some u := ⟨_, (cell_of_row w6 g_m (m * 2) _ _ (0, 0) r_m).trans (Array.getElem?_eq_getElem (by rw [hsz]; omega))⟩
  obtain ⟨u1, m1⟩ := m1
  have m2 := frozen_of_row w6 g_m (m * 2) _ _ r_m
  have r_m2 := heap_setCell_same w6 g_m (m * 2) _ _ (.int .i64 s) r_m
  have m3 : ∃ u, (w6.setCell ⟨g_m, m * 2, none⟩ (.int .i64 s)).cell? ⟨g_m, m * 2 + 1, none⟩ = some u := ⟨_, (cell_of_row _ g_m (m * 2 + 1) _ _ (0, 0) r_m2).trans (Array.getElem?_eq_getElem (by rw [Array.size_setIfInBounds, hsz]; omega))⟩
  obtain ⟨u2, m3⟩ := m3
  have m4 := frozen_of_row _ g_m (m * 2 + 1) _ _ r_m2
  have hmi : (m : Int) < ((m + 1 : Nat) : Int) := by omega
  go_upto_region 8 with (fail)
  rw [setCell_eq_setRow _ g_m (m * 2 + 1) _ _ (0, 0) _ r_m2, setCell_eq_setRow w6 g_m (m * 2) _ _ (0, 0) _ r_m, setRow_setRow, set_vote m (s, o)]
  clear m1 m2 m3 m4 r_m2 d22 u1 u2 hmi hsz
  obtain ⟨w7, hw7⟩ : ∃ W, W = w6.setRow g_m (voC (loneV m (s, o))).toArray := ⟨_, rfl⟩
  rw [← hw7]
  replace r_x : w7.heap[g_x]? = some (.cells X 34 (0, 0)) := by rw [hw7, setRow_other _ _ _ _ (by have := D_x_m.out; omega)]; exact r_x
  replace L_x : Hid (g_x < w7.heap.size) := hide (by rw [hw7, setRow_size]; exact L_x.out)
  replace r_v : w7.heap[g_v]? = some (.cells #[.int .i64 s, .bool o] 46 (0, 0)) := by rw [hw7, setRow_other _ _ _ _ (by have := D_v_m.out; omega)]; exact r_v
  replace L_v : Hid (g_v < w7.heap.size) := hide (by rw [hw7, setRow_size]; exact L_v.out)
  replace r_r : w7.heap[g_r]? = some (.cells Z 34 (0, 0)) := by rw [hw7, setRow_other _ _ _ _ (by have := D_r_m.out; omega)]; exact r_r
  replace L_r : Hid (g_r < w7.heap.size) := hide (by rw [hw7, setRow_size]; exact L_r.out)
  replace r_w : w7.heap[g_w]? = some (.cells Y 34 (0, 0)) := by rw [hw7, setRow_other _ _ _ _ (by have := D_w_m.out; omega)]; exact r_w
  replace L_w : Hid (g_w < w7.heap.size) := hide (by rw [hw7, setRow_size]; exact L_w.out)
  replace r_m : w7.heap[g_m]? = some (.cells (voC (loneV m (s, o))).toArray 46 (0, 0)) := by rw [hw7]; exact setRow_heap _ _ _ _ _ _ r_m
  replace L_m : Hid (g_m < w7.heap.size) := hide (by rw [hw7, setRow_size]; exact L_m.out)
  replace HB0 : Hid (Below w.heap.size w w7) := hide (by rw [hw7]; exact below_setRow HB0.out G_m.out _)
  clear hw7
  have HBL := HB0
  have LR := L_r
  have KL := kn_lone (k := k) xc hm r_m
  rw [← hY] at KL
  have ys := KL.rc.size
  have yx := KL.rc.x0
  have KK := H.out.below HB0.out (Nat.le_refl _)
  have KJ := hide (joinK_any w7 w7.heap.size X Y k (withV k (loneV m (s, o))) va (some ⟨g_m, 0, none⟩) vc (m + 1) (KK.more HB0.out.size) KL (Nat.le_refl _))
  clear KL KK hY
  go_wp2_with fail
  refine KJ.out.mono ?_
  rintro e w20 ⟨M, rfl, vm, cm, km, om, bm⟩
  dsimp only
  replace r_x := (bm.block g_x L_x.out).trans r_x
  replace L_x := hide (Nat.lt_of_lt_of_le L_x.out bm.size)
  replace r_v := (bm.block g_v L_v.out).trans r_v
  replace L_v := hide (Nat.lt_of_lt_of_le L_v.out bm.size)
  replace r_r := (bm.block g_r L_r.out).trans r_r
  replace L_r := hide (Nat.lt_of_lt_of_le L_r.out bm.size)
  replace r_w := (bm.block g_w L_w.out).trans r_w
  replace L_w := hide (Nat.lt_of_lt_of_le L_w.out bm.size)
  replace r_m := (bm.block g_m L_m.out).trans r_m
  replace L_m := hide (Nat.lt_of_lt_of_le L_m.out bm.size)
  replace HB0 := hide (HB0.out.trans (bm.mono HB0.out.size))
  have ms := km.rc.size
  have mo := km.rc.one
  have HKM := hide km
  have HOM := hide om
  have BM := hide bm
  have G20 := hide HB0.out.size
  clear km om bm KJ
  go_wp2
  refine bodyPost_ret (results_cell_tmp (fn := Try.f16) Try.results16 _ _ g_r 34 M (0, 0) _ rfl (setRow_heap w20 _ _ _ _ _ r_r) Try.underlying34 rfl (by rw [ms]; exact info_rec)) rfl ?_
  rw [HE.out.1, HE.out.2]
  exact ⟨M, rfl, RecP.store ⟨vm, cm, HKM.out, HOM.out, BM.out⟩ HBL.out G_r.out LR.out M⟩
end Go.Proofs.Ytmbddengmheeeaa
