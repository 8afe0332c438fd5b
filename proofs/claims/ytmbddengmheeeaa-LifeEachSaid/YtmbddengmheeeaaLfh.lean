/-
  The Spec that is not ahead; can a Spec be.
-/
import Derived.Test.YtmbddengmheeeaaLfg
import Derived.Test.YtmbddengmheeeaaQb
namespace Go.Proofs.Ytmbddengmheeeaa
open Go.RowKit
set_option maxRecDepth 100000
set_option linter.unusedVariables false
set_option linter.unusedSimpArgs false
attribute [local go_sem ↓] exec_span exec_put exec_build heap_alloc_new heap_old
attribute [local go_sem] spanQ_ptr spanC_some heap_of_drew heap_of_drewN rs_ad rs_spec putAt_ptr putOk_ptr oldOk_some store_fl

def zSp : Spc := ⟨0, 0, false, List.replicate 16 0, 0⟩
theorem zSp_ok : SpV (spL zSp).toArray zSp := ⟨rfl, by simp [zSp], by show 0 < 2 ^ 64; decide⟩
set_option maxHeartbeats 4000000 in
theorem notAheadS_any (w : World) (X Y : Array Value) (s t : Spc) (h : SpV X s) (h' : SpV Y t) : Calls Try.prog 47 #[.agg X, .agg Y, .func (.func 48) #[.agg X] #[]] w (ValP w (.agg (if spAhead s t = true then Y else X))) := by
  have KA := hide (fun W => aheadsp_any W X Y s t h h')
  generalize spAhead s t = r at KA ⊢
  obtain ⟨W, hW, r1, r2, r3, hz, hb⟩ := three_new w X Y (spL zSp).toArray 31
  have hxs := h.size
  have hys := h'.size
  have hxx := h.x0
  have hyx := h'.x0
  have hxo := h.one
  have hyo := h'.one
  have hzs := zSp_ok.size
  have HK := hide (fun W1 (b : Below W.heap.size W W1) => And.intro ((b.block w.heap.size (by omega)).trans r1) (And.intro ((b.block (w.heap.size + 1) (by omega)).trans r2) ((b.block (w.heap.size + 1 + 1) (by omega)).trans r3)))
  have HB := hide hb
  have HZ := hide hz
  have HW := hide hW
  clear hb hz hW
  cases r
  · rw [if_neg (by simp)]
    go_enter Try.func47, Try.ntmps47
    go_upto_region 1 with (fail)
    change Code.wp _ _ _ _ (((w.alloc (.cells X 31)).alloc (.cells Y 31)).alloc (.cells (spL zSp).toArray 31))
    rw [HW.out]
    generalize (spL zSp).toArray = Z at HK hzs r3
    go_wp2_with fail
    refine (KA.out _).mono ?_
    rintro e w1 ⟨rfl, b1⟩
    have B1 : Hid (Below w.heap.size w w1) := hide (HB.out.trans (b1.mono (by have := HZ.out; omega)))
    obtain ⟨s1, s2, s3⟩ := HK.out w1 b1
    clear b1 r1 r2 r3
    go_wp2
    refine bodyPost_ret (results_cell_row (fn := Try.f47) Try.results47 _ _ (w.heap.size + 1 + 1) 31 X (0, 0) _ rfl (setRow_heap w1 _ _ _ _ _ s3) Try.underlying31 rfl (by rw [hxs]; exact info_spec)) rfl ⟨rfl, below_setRow B1.out (by omega) _⟩
  · rw [if_pos rfl]
    go_enter Try.func47, Try.ntmps47
    go_upto_region 1 with (fail)
    change Code.wp _ _ _ _ (((w.alloc (.cells X 31)).alloc (.cells Y 31)).alloc (.cells (spL zSp).toArray 31))
    rw [HW.out]
    generalize (spL zSp).toArray = Z at HK hzs r3
    go_wp2_with fail
    refine (KA.out _).mono ?_
    rintro e w1 ⟨rfl, b1⟩
    have B1 : Hid (Below w.heap.size w w1) := hide (HB.out.trans (b1.mono (by have := HZ.out; omega)))
    obtain ⟨s1, s2, s3⟩ := HK.out w1 b1
    clear b1 r1 r2 r3
    go_wp2
    refine bodyPost_ret (results_cell_row (fn := Try.f47) Try.results47 _ _ (w.heap.size + 1 + 1) 31 Y (0, 0) _ rfl (setRow_heap w1 _ _ _ _ _ s3) Try.underlying31 rfl (by rw [hys]; exact info_spec)) rfl ⟨rfl, below_setRow B1.out (by omega) _⟩

/-- a Spec can be. -/
def okSp (s : Spc) : Bool := decide (0 < s.st) && (decide (s.st ≤ 1099511627776) && (nodeB s.by_ && (rightL s.av s.ab && sameB s.wt (clF s.wt))))
set_option maxHeartbeats 8000000 in
theorem rightSpec_any (w : World) (X : Array Value) (s : Spc) (h : SpV X s) : Calls Try.prog 43 #[.agg X] w (BoolP w (okSp s)) := by
  have hF : Hid (∀ w' r, Below w.heap.size w w' → r = okSp s → BoolP w (okSp s) (.returned (.bool r)) w') := hide fun w' r hb hr => ⟨by rw [hr], hb⟩
  have he : okSp s = (decide (0 < s.st) && (decide (s.st ≤ 1099511627776) && (nodeB s.by_ && (rightL s.av s.ab && sameB s.wt (clF s.wt))))) := rfl
  generalize okSp s = R at hF he ⊢
  obtain ⟨W, hW, r1, hz, hb⟩ := one_block w (.cells X 31)
  have A1 : AdV (adL s.av s.ab).toArray s.av s.ab := AdV.mk' h.la
  have KR := hide (fun W1 => right_any W1 _ _ _ A1)
  have KN := hide (fun W1 => rightNode_any W1 s.by_)
  have KC := hide (fun W1 => clean_any s.wt W1 h.wf)
  have hcl : clF s.wt < 2 ^ 64 := Nat.lt_trans (clF_lt s.wt) (by decide)
  have KS := hide (fun W1 => sameW_any s.wt (clF s.wt) W1 h.wf hcl)
  have hxa := h.addr
  have hxs := h.size
  generalize (adL s.av s.ab).toArray = XA at KR hxa
  have HC := hide (fun W1 (b : Below W.heap.size W W1) => And.intro ((b.block w.heap.size (by omega)).trans r1) (h.cells ((b.block w.heap.size (by omega)).trans r1)))
  obtain ⟨k0, k1, k19⟩ := (HC.out W (Below.refl _ _)).2
  obtain ⟨nb, hnb⟩ : ∃ nb, nb = nodeB s.by_ := ⟨_, rfl⟩
  obtain ⟨rl, hrl⟩ : ∃ rl, rl = rightL s.av s.ab := ⟨_, rfl⟩
  obtain ⟨sb, hsb⟩ : ∃ sb, sb = sameB s.wt (clF s.wt) := ⟨_, rfl⟩
  rw [← hnb] at KN he
  rw [← hrl] at KR he
  rw [← hsb] at KS he
  obtain ⟨st, hst⟩ : ∃ st, st = s.st := ⟨_, rfl⟩
  obtain ⟨bz, hbz⟩ : ∃ bz, bz = s.by_ := ⟨_, rfl⟩
  obtain ⟨wt, hwt⟩ : ∃ wt, wt = s.wt := ⟨_, rfl⟩
  obtain ⟨cl, hcl⟩ : ∃ cl, cl = clF s.wt := ⟨_, rfl⟩
  rw [← hcl] at KC KS
  rw [← hst, ← hbz, ← hwt] at HC
  rw [← hst] at he k0
  rw [← hbz] at KN k1
  rw [← hwt] at KC KS k19
  have HB := hide hb
  have HZ := hide hz
  have HE := hide he
  clear h A1 hnb hrl hsb hst hbz hwt hcl hb hz he
  by_cases c1 : 0 < st
  · have d1 : decide (st > 0) = true := by simpa using c1
    by_cases c2 : st ≤ 1099511627776
    · have d2 : decide (st ≤ 1099511627776) = true := by simpa using c2
      have R0 : ∀ p : BW W, p.w.cell? ⟨w.heap.size, 0, none⟩ = some (.int .i64 st) := fun p => p.cell k0
      have R1 : ∀ p : BW W, p.w.cell? ⟨w.heap.size, 1, none⟩ = some (.int .i64 bz) := fun p => p.cell k1
      have R19 : ∀ p : BW W, p.w.cell? ⟨w.heap.size, 19, none⟩ = some (.float .f64 wt) := fun p => p.cell k19
      have RX : ∀ p : BW W, p.w.heap[w.heap.size]? = some (.cells X 31 (0, 0)) := fun p => p.block r1
      cases nb
      · have hR : Hid (R = false) := hide (by rw [HE.out]; simp)
        go_enter Try.func43, Try.ntmps43
        go_wp2
        refine wp_region_below W (Below.refl _ _) (by kernel_rfl) (by kernel_rfl) ?_
        repeat
          first
          | (go_big_quiet_step (first
          | (go_at_call 52; exact Calls.bel_same (KN.out _))
          | fail))
          | (go_big_quiet_want; apply quiet_span; (intro p; go_simp; rfl); (try simp only [Act.put, List.setIfInBounds_toArray, List.set_cons_zero, List.set_cons_succ]); go_big_quiet_on)
        refine wpQuiet_nil ?_
        intro _ hw'
        obtain ⟨pq, hw''⟩ := hw'
        subst hw''
        go_wp2
        go_ret
        exact hF.out _ _ (HB.out.trans (pq.below.mono (by have := HZ.out; omega))) hR.out.symm
      cases rl
      · have hR : Hid (R = false) := hide (by rw [HE.out]; simp)
        go_enter Try.func43, Try.ntmps43
        go_wp2
        refine wp_region_below W (Below.refl _ _) (by kernel_rfl) (by kernel_rfl) ?_
        repeat
          first
          | (go_big_quiet_step (first
          | (go_at_call 52; exact Calls.bel_same (KN.out _))
          | (go_at_call 73; exact Calls.bel (KR.out _))
          | (go_at_call 75; exact Calls.bel (KC.out _))
          | (go_at_call 74; exact Calls.bel_same (KS.out _))
          | fail))
          | (go_big_quiet_want; apply quiet_span; (intro p; go_simp; rfl); (try simp only [Act.put, List.setIfInBounds_toArray, List.set_cons_zero, List.set_cons_succ]); go_big_quiet_on)
        refine wpQuiet_nil ?_
        intro _ hw'
        obtain ⟨pq, hw''⟩ := hw'
        subst hw''
        go_wp2
        go_ret
        exact hF.out _ _ (HB.out.trans (pq.below.mono (by have := HZ.out; omega))) hR.out.symm
      · have hR : Hid (R = sb) := hide (by rw [HE.out, decide_eq_true c1, decide_eq_true c2]; rfl)
        go_enter Try.func43, Try.ntmps43
        go_wp2
        refine wp_region_below W (Below.refl _ _) (by kernel_rfl) (by kernel_rfl) ?_
        repeat
          first
          | (go_big_quiet_step (first
          | (go_at_call 52; exact Calls.bel_same (KN.out _))
          | (go_at_call 73; exact Calls.bel (KR.out _))
          | (go_at_call 75; exact Calls.bel (KC.out _))
          | (go_at_call 74; exact Calls.bel_same (KS.out _))
          | fail))
          | (go_big_quiet_want; apply quiet_span; (intro p; go_simp; rfl); (try simp only [Act.put, List.setIfInBounds_toArray, List.set_cons_zero, List.set_cons_succ]); go_big_quiet_on)
        refine wpQuiet_nil ?_
        intro _ hw'
        obtain ⟨pq, hw''⟩ := hw'
        subst hw''
        go_wp2
        go_ret
        exact hF.out _ _ (HB.out.trans (pq.below.mono (by have := HZ.out; omega))) hR.out.symm
    · have d2 : decide (st ≤ 1099511627776) = false := by simpa using c2
      have hR : Hid (R = false) := hide (by rw [HE.out, decide_eq_false c2, Bool.false_and, Bool.and_false])
      go_enter Try.func43, Try.ntmps43
      go_wp2
      go_quiet (fail)
      go_wp2
      go_ret
      exact hF.out _ _ (below_drewN HB.out _) hR.out.symm
  · have d1 : decide (st > 0) = false := by simpa using c1
    have hR : Hid (R = false) := hide (by rw [HE.out, decide_eq_false c1]; rfl)
    go_enter Try.func43, Try.ntmps43
    go_wp2
    go_quiet (fail)
    go_wp2
    go_ret
    exact hF.out _ _ (below_drewN HB.out _) hR.out.symm
end Go.Proofs.Ytmbddengmheeeaa
