/-
  Can it be: Right. Is it a backend that so many replicas know: knownTo; have all no flow: Over.
-/
import Derived.Test.YtmbddengmheeeaaLfi
namespace Go.Proofs.Ytmbddengmheeeaa
open Go.RowKit
set_option maxRecDepth 100000
set_option linter.unusedVariables false
set_option linter.unusedSimpArgs false
attribute [local go_sem ↓] exec_span exec_put exec_build heap_alloc_new heap_old
attribute [local go_sem] spanQ_ptr spanC_some heap_of_drew heap_of_drewN rs_ad rs_spec rs_rec putAt_ptr putOk_ptr oldOk_some store_fl

def okR (k : Kn) : Bool := decide (k.g > 0) && (decide (k.g ≤ 1099511627776) && (decide (k.l ≥ 1) && (decide (k.l ≤ 3) && (okSp k.sp && (votesOk k.vs && (decide (k.dn ≥ 0) && decide (k.dn ≤ 65535)))))))
def okK (k : Kn) : Bool := if k.g = 0 then sameK k zKn else okR k
set_option maxHeartbeats 16000000 in
theorem rightK_any (w : World) (B : Nat) (X : Array Value) (k : Kn) (va : Option Addr) (vc : Nat) (h : KnV w B X k va vc) (hB : B ≤ w.heap.size) : Calls Try.prog 11 #[.agg X] w (BoolP w (okK k)) := by
  have hF : Hid (∀ w' r, Below w.heap.size w w' → r = okK k → BoolP w (okK k) (.returned (.bool r)) w') := hide fun w' r hb hr => ⟨by rw [hr], hb⟩
  have he0 : Hid (k.g = 0 → sameK k zKn = okK k) := hide (fun e => by unfold okK; rw [if_pos e])
  have he : k.g ≠ 0 → okK k = (decide (k.g > 0) && (decide (k.g ≤ 1099511627776) && (decide (k.l ≥ 1) && (decide (k.l ≤ 3) && (okSp k.sp && (votesOk k.vs && (decide (k.dn ≥ 0) && decide (k.dn ≤ 65535)))))))) := fun e => by unfold okK okR; rw [if_neg e]
  generalize okK k = R at hF he0 he ⊢
  obtain ⟨W, hW, r1, hz, hb⟩ := one_block w (.cells X 34)
  have hv1 := h.vo.below hb hB
  have hBW : B ≤ W.heap.size := by omega
  have K0 := hide (sameK_any W B X (rcL zRcd).toArray k zKn va none vc 0 (h.below hb hB) ((zKn_ok W).more (Nat.zero_le _)) hBW)
  have KS := hide (fun p : BW W => rightSpec_any p.w _ _ h.rc.sp)
  have KV := hide (fun p : BW W => rightVotes_any p.w B va vc k.vs (hv1.below p.below hBW) (Nat.le_trans hBW p.below.size) h.sz)
  have KB := hide (fun p : BW W => bits_any p.w 16 (Nat.le_refl _))
  rw [show bitsV 16 = 65535 by decide] at KB
  obtain ⟨a0, a1, a22, a23⟩ := h.rc.cells r1
  have hxs := h.rc.size
  have hxx := h.rc.x0
  have hxe := h.rc.spec
  simp only [Kn.rc] at KS hxe a0 a1 a22 a23
  generalize (spL k.sp).toArray = XS at KS hxe
  have hzs : (rcL zRcd).toArray.size = 24 := by simp [rcL, spL, adL, zRcd, zSp]
  have hbu := built_rec0
  generalize (rcL zRcd).toArray = Z0 at K0 hzs hbu
  obtain ⟨q, hq⟩ : ∃ q, q = okSp k.sp := ⟨_, rfl⟩
  rw [← hq] at KS he
  obtain ⟨v, hv⟩ : ∃ v, v = votesOk k.vs := ⟨_, rfl⟩
  rw [← hv] at KV he
  obtain ⟨s0, hs0⟩ : ∃ v, v = sameK k zKn := ⟨_, rfl⟩
  rw [← hs0] at K0 he0
  obtain ⟨ag, hag⟩ : ∃ x, x = k.g := ⟨_, rfl⟩
  obtain ⟨al, hal⟩ : ∃ x, x = k.l := ⟨_, rfl⟩
  obtain ⟨ad, had⟩ : ∃ x, x = k.dn := ⟨_, rfl⟩
  obtain ⟨an, han⟩ : ∃ x, x = k.vs.length := ⟨_, rfl⟩
  rw [← hag, ← hal, ← had] at he
  rw [← hag] at a0 he0
  rw [← hal] at a1
  rw [← had] at a23
  rw [← han] at a22 KV
  have HB := hide hb
  have HZ := hide hz
  clear hq hv hs0 hag hal had han hb hz h hv1 hBW
  by_cases e0 : ag = 0
  · subst e0
    have hR : Hid (s0 = R) := hide (he0.out rfl)
    clear he he0
    go_enter Try.func11, Try.ntmps11
    go_wp2_with fail
    refine K0.out.mono ?_
    rintro e w1 ⟨rfl, bb1⟩
    have B1 := hide (HB.out.trans (bb1.mono (show w.heap.size ≤ W.heap.size by have := HZ.out; omega)))
    dsimp only
    go_wp2
    go_ret
    exact hF.out _ _ B1.out hR.out
  have n0 : (ag == 0) = false := by simpa using e0
  have HE := hide (he e0)
  have A0 : ∀ p : BW W, p.w.cell? ⟨w.heap.size, 0, none⟩ = some (.int .i64 ag) := fun p => p.cell a0
  have A1 : ∀ p : BW W, p.w.cell? ⟨w.heap.size, 1, none⟩ = some (.int .i64 al) := fun p => p.cell a1
  have A22 : ∀ p : BW W, p.w.cell? ⟨w.heap.size, 22, none⟩ = some (.slice va an vc) := fun p => p.cell a22
  have A23 : ∀ p : BW W, p.w.cell? ⟨w.heap.size, 23, none⟩ = some (.int .i64 ad) := fun p => p.cell a23
  have RX : ∀ p : BW W, p.w.heap[w.heap.size]? = some (.cells X 34 (0, 0)) := fun p => p.block r1
  obtain ⟨d1, hd1⟩ : ∃ d, d = decide (ag > 0) := ⟨_, rfl⟩
  obtain ⟨d2, hd2⟩ : ∃ d, d = decide (ag ≤ 1099511627776) := ⟨_, rfl⟩
  obtain ⟨d3, hd3⟩ : ∃ d, d = decide (al ≥ 1) := ⟨_, rfl⟩
  obtain ⟨d4, hd4⟩ : ∃ d, d = decide (al ≤ 3) := ⟨_, rfl⟩
  obtain ⟨d5, hd5⟩ : ∃ d, d = decide (ad ≥ 0) := ⟨_, rfl⟩
  obtain ⟨d6, hd6⟩ : ∃ d, d = decide (ad ≤ 65535) := ⟨_, rfl⟩
  rw [← hd1, ← hd2, ← hd3, ← hd4, ← hd5, ← hd6] at HE
  have g1 := hd1.symm
  have g2 := hd2.symm
  have g3 := hd3.symm
  have g4 := hd4.symm
  have g5 := hd5.symm
  have g6 := hd6.symm
  clear hd1 hd2 hd3 hd4 hd5 hd6 he he0 e0 a1 a22 a23 K0 hbu hzs
  have HF : Hid (∀ (p : BW W) r, r = R → BoolP w R (.returned (.bool r)) p.w) := hide fun p r hr => hF.out _ _ (HB.out.trans (p.below.mono (by have := HZ.out; omega))) hr
  clear HB HZ hF
  go_enter Try.func11, Try.ntmps11
  go_upto_region 3 with (fail)
  clear a0 r1 n0
  cases d1
  · have hR : Hid (false = R) := hide (by rw [HE.out]; rfl)
    refine wp_region_below W (Below.refl _ _) (by kernel_rfl) (by kernel_rfl) ?_
    repeat
      first
      | (go_big_quiet_step (fail))
      | (go_big_quiet_want; apply quiet_span; (intro p; go_simp; rfl); (try simp only [Act.put, List.setIfInBounds_toArray, List.set_cons_zero, List.set_cons_succ]); go_big_quiet_on)
    refine wpQuiet_nil ?_
    intro _ hw'
    obtain ⟨pq, hw''⟩ := hw'
    subst hw''
    go_wp2
    go_ret
    exact HF.out pq _ hR.out
  cases d2
  · have hR : Hid (false = R) := hide (by rw [HE.out]; rfl)
    refine wp_region_below W (Below.refl _ _) (by kernel_rfl) (by kernel_rfl) ?_
    repeat
      first
      | (go_big_quiet_step (fail))
      | (go_big_quiet_want; apply quiet_span; (intro p; go_simp; rfl); (try simp only [Act.put, List.setIfInBounds_toArray, List.set_cons_zero, List.set_cons_succ]); go_big_quiet_on)
    refine wpQuiet_nil ?_
    intro _ hw'
    obtain ⟨pq, hw''⟩ := hw'
    subst hw''
    go_wp2
    go_ret
    exact HF.out pq _ hR.out
  cases d3
  · have hR : Hid (false = R) := hide (by rw [HE.out]; rfl)
    refine wp_region_below W (Below.refl _ _) (by kernel_rfl) (by kernel_rfl) ?_
    repeat
      first
      | (go_big_quiet_step (fail))
      | (go_big_quiet_want; apply quiet_span; (intro p; go_simp; rfl); (try simp only [Act.put, List.setIfInBounds_toArray, List.set_cons_zero, List.set_cons_succ]); go_big_quiet_on)
    refine wpQuiet_nil ?_
    intro _ hw'
    obtain ⟨pq, hw''⟩ := hw'
    subst hw''
    go_wp2
    go_ret
    exact HF.out pq _ hR.out
  cases d4
  · have hR : Hid (false = R) := hide (by rw [HE.out]; rfl)
    refine wp_region_below W (Below.refl _ _) (by kernel_rfl) (by kernel_rfl) ?_
    repeat
      first
      | (go_big_quiet_step (fail))
      | (go_big_quiet_want; apply quiet_span; (intro p; go_simp; rfl); (try simp only [Act.put, List.setIfInBounds_toArray, List.set_cons_zero, List.set_cons_succ]); go_big_quiet_on)
    refine wpQuiet_nil ?_
    intro _ hw'
    obtain ⟨pq, hw''⟩ := hw'
    subst hw''
    go_wp2
    go_ret
    exact HF.out pq _ hR.out
  cases q
  · have hR : Hid (false = R) := hide (by rw [HE.out]; rfl)
    refine wp_region_below W (Below.refl _ _) (by kernel_rfl) (by kernel_rfl) ?_
    repeat
      first
      | (go_big_quiet_step (first
      | (go_at_call 43; exact Calls.bel (KS.out _))
      | fail))
      | (go_big_quiet_want; apply quiet_span; (intro p; go_simp; rfl); (try simp only [Act.put, List.setIfInBounds_toArray, List.set_cons_zero, List.set_cons_succ]); go_big_quiet_on)
    refine wpQuiet_nil ?_
    intro _ hw'
    obtain ⟨pq, hw''⟩ := hw'
    subst hw''
    go_wp2
    go_ret
    exact HF.out pq _ hR.out
  cases v
  · have hR : Hid (false = R) := hide (by rw [HE.out]; rfl)
    refine wp_region_below W (Below.refl _ _) (by kernel_rfl) (by kernel_rfl) ?_
    repeat
      first
      | (go_big_quiet_step (first
      | (go_at_call 43; exact Calls.bel (KS.out _))
      | (go_at_call 44; exact Calls.bel (KV.out _))
      | fail))
      | (go_big_quiet_want; apply quiet_span; (intro p; go_simp; rfl); (try simp only [Act.put, List.setIfInBounds_toArray, List.set_cons_zero, List.set_cons_succ]); go_big_quiet_on)
    refine wpQuiet_nil ?_
    intro _ hw'
    obtain ⟨pq, hw''⟩ := hw'
    subst hw''
    go_wp2
    go_ret
    exact HF.out pq _ hR.out
  cases d5
  · have hR : Hid (false = R) := hide (by rw [HE.out]; rfl)
    refine wp_region_below W (Below.refl _ _) (by kernel_rfl) (by kernel_rfl) ?_
    repeat
      first
      | (go_big_quiet_step (first
      | (go_at_call 43; exact Calls.bel (KS.out _))
      | (go_at_call 44; exact Calls.bel (KV.out _))
      | fail))
      | (go_big_quiet_want; apply quiet_span; (intro p; go_simp; rfl); (try simp only [Act.put, List.setIfInBounds_toArray, List.set_cons_zero, List.set_cons_succ]); go_big_quiet_on)
    refine wpQuiet_nil ?_
    intro _ hw'
    obtain ⟨pq, hw''⟩ := hw'
    subst hw''
    go_wp2
    go_ret
    exact HF.out pq _ hR.out
  · have hR : Hid (d6 = R) := hide (by rw [HE.out]; simp)
    refine wp_region_below W (Below.refl _ _) (by kernel_rfl) (by kernel_rfl) ?_
    repeat
      first
      | (go_big_quiet_step (first
      | (go_at_call 43; exact Calls.bel (KS.out _))
      | (go_at_call 44; exact Calls.bel (KV.out _))
      | (go_at_call 45; exact Calls.bel_same (KB.out _))
      | fail))
      | (go_big_quiet_want; apply quiet_span; (intro p; go_simp; rfl); (try simp only [Act.put, List.setIfInBounds_toArray, List.set_cons_zero, List.set_cons_succ]); go_big_quiet_on)
    refine wpQuiet_nil ?_
    intro _ hw'
    obtain ⟨pq, hw''⟩ := hw'
    subst hw''
    go_wp2
    go_ret
    exact HF.out pq _ hR.out
end Go.Proofs.Ytmbddengmheeeaa
