/-
  Is it a backend that so many replicas know: knownTo; have all no flow to it: Over.
-/
import Derived.Test.YtmbddengmheeeaaLfj
namespace Go.Proofs.Ytmbddengmheeeaa
open Go.RowKit
set_option maxRecDepth 100000
set_option linter.unusedVariables false
set_option linter.unusedSimpArgs false
attribute [local go_sem ↓] exec_span exec_put exec_build heap_alloc_new heap_old
attribute [local go_sem] spanQ_ptr spanC_some heap_of_drew heap_of_drewN rs_ad rs_spec rs_rec putAt_ptr putOk_ptr oldOk_some store_fl

def knTo (k : Kn) (n : Int) : Bool := okK k && (decide (n ≥ 1) && (decide (n ≤ 16) && decide (k.g > 0)))
set_option maxHeartbeats 8000000 in
theorem knTo_any (w : World) (B : Nat) (X : Array Value) (k : Kn) (va : Option Addr) (vc : Nat) (n : Int) (h : KnV w B X k va vc) (hB : B ≤ w.heap.size) : Calls Try.prog 56 #[.agg X, .int .i64 n] w (BoolP w (knTo k n)) := by
  have hF : Hid (∀ w' r, Below w.heap.size w w' → r = knTo k n → BoolP w (knTo k n) (.returned (.bool r)) w') := hide fun w' r hb hr => ⟨by rw [hr], hb⟩
  have he : knTo k n = (okK k && (decide (n ≥ 1) && (decide (n ≤ 16) && decide (k.g > 0)))) := rfl
  generalize knTo k n = R at hF he ⊢
  obtain ⟨W, hW, r1, hz, hb⟩ := one_block w (.cells X 34)
  have KR := hide (rightK_any W B X k va vc (h.below hb hB) (by omega))
  obtain ⟨a0, -⟩ := h.rc.cells r1
  have hxs := h.rc.size
  have hxx := h.rc.x0
  simp only [Kn.rc] at a0
  obtain ⟨q, hq⟩ : ∃ q, q = okK k := ⟨_, rfl⟩
  rw [← hq] at KR he
  obtain ⟨ag, hag⟩ : ∃ x, x = k.g := ⟨_, rfl⟩
  rw [← hag] at he a0
  have HA := hide (fun (W1 : World) (bl : Below W.heap.size W W1) => ((BW.mk W1 bl).cell a0))
  have HB := hide hb
  have HZ := hide hz
  obtain ⟨d1, hd1⟩ : ∃ d, d = decide (n ≥ 1) := ⟨_, rfl⟩
  obtain ⟨d2, hd2⟩ : ∃ d, d = decide (n ≤ 16) := ⟨_, rfl⟩
  obtain ⟨d3, hd3⟩ : ∃ d, d = decide (ag > 0) := ⟨_, rfl⟩
  rw [← hd1, ← hd2, ← hd3] at he
  have g1 := hd1.symm
  have g2 := hd2.symm
  have g3 := hd3.symm
  have HE := hide he
  clear hq hag hb hz h he hd1 hd2 hd3 a0
  go_enter Try.func56, Try.ntmps56
  go_wp2_with fail
  refine KR.out.mono ?_
  rintro e w1 ⟨rfl, bb1⟩
  have c0 := HA.out w1 bb1
  have B1 := hide (HB.out.trans (bb1.mono (show w.heap.size ≤ W.heap.size by have := HZ.out; omega)))
  clear bb1 r1
  dsimp only
  cases q
  · have hR : Hid (R = false) := hide (by rw [HE.out]; rfl)
    go_wp2
    go_ret
    exact hF.out _ _ B1.out hR.out.symm
  cases d1
  · have hR : Hid (R = false) := hide (by rw [HE.out]; rfl)
    go_wp2
    go_ret
    exact hF.out _ _ B1.out hR.out.symm
  cases d2
  · have hR : Hid (R = false) := hide (by rw [HE.out]; rfl)
    go_wp2
    go_ret
    exact hF.out _ _ B1.out hR.out.symm
  · have hR : Hid (R = d3) := hide (by rw [HE.out]; simp)
    go_wp2
    go_ret
    exact hF.out _ _ B1.out hR.out.symm
def overB (dn : Int) (n : Nat) : Bool := bits BinOp.and IntKind.i64 dn (bitsV n : Int) == (bitsV n : Int)
def overK (k : Kn) (n : Int) : Bool := knTo k n && overB k.dn n.toNat
set_option maxHeartbeats 8000000 in
theorem overK_any (w : World) (B : Nat) (X : Array Value) (k : Kn) (va : Option Addr) (vc : Nat) (n : Int) (h : KnV w B X k va vc) (hB : B ≤ w.heap.size) : Calls Try.prog 20 #[.agg X, .int .i64 n] w (BoolP w (overK k n)) := by
  have hF : Hid (∀ w' r, Below w.heap.size w w' → r = overK k n → BoolP w (overK k n) (.returned (.bool r)) w') := hide fun w' r hb hr => ⟨by rw [hr], hb⟩
  have he : overK k n = (knTo k n && overB k.dn n.toNat) := rfl
  generalize overK k n = R at hF he ⊢
  obtain ⟨W, hW, r1, hz, hb⟩ := one_block w (.cells X 34)
  have hn : knTo k n = true → 1 ≤ n ∧ n ≤ 16 := fun e => by
    unfold knTo at e
    simp only [Bool.and_eq_true, decide_eq_true_eq] at e
    omega
  have hBW : B ≤ W.heap.size := by omega
  have KN := hide (fun p : BW W => knTo_any p.w B X k va vc n ((h.below hb hB).below p.below hBW) (Nat.le_trans hBW p.below.size))
  obtain ⟨-, -, -, a23⟩ := h.rc.cells r1
  have hxs := h.rc.size
  have hxx := h.rc.x0
  simp only [Kn.rc] at a23
  obtain ⟨q, hq⟩ : ∃ q, q = knTo k n := ⟨_, rfl⟩
  rw [← hq] at KN he hn
  obtain ⟨ad, had⟩ : ∃ x, x = k.dn := ⟨_, rfl⟩
  rw [← had] at he a23
  have A23 : ∀ p : BW W, p.w.cell? ⟨w.heap.size, 23, none⟩ = some (.int .i64 ad) := fun p => p.cell a23
  have RX : ∀ p : BW W, p.w.heap[w.heap.size]? = some (.cells X 34 (0, 0)) := fun p => p.block r1
  have HF : Hid (∀ (p : BW W) r, r = R → BoolP w R (.returned (.bool r)) p.w) := hide fun p r hr => hF.out _ _ (hb.trans (p.below.mono (by omega))) hr
  clear hq had hb hz h hBW hF
  cases q
  · have hR : Hid (false = R) := hide (by rw [he]; rfl)
    clear he hn
    go_enter Try.func20, Try.ntmps20
    go_upto_region 1 with (fail)
    refine wp_region_below W (Below.refl _ _) (by kernel_rfl) (by kernel_rfl) ?_
    repeat
      first
      | (go_big_quiet_step (first
      | (go_at_call 56; exact Calls.bel (KN.out _))
      | fail))
      | (go_big_quiet_want; apply quiet_span; (intro p; go_simp; rfl); (try simp only [Act.put, List.setIfInBounds_toArray, List.set_cons_zero, List.set_cons_succ]); go_big_quiet_on)
    refine wpQuiet_nil ?_
    intro _ hw'
    obtain ⟨pq, hw''⟩ := hw'
    subst hw''
    go_wp2
    go_ret
    exact HF.out pq _ hR.out
  · obtain ⟨n1, n2⟩ := hn rfl
    obtain ⟨m, rfl⟩ : ∃ m : Nat, n = (m : Int) := ⟨n.toNat, by omega⟩
    rw [Int.toNat_natCast] at he
    have KB := hide (fun p : BW W => bits_any p.w m (by omega))
    unfold overB at he
    obtain ⟨bm, hbm⟩ : ∃ b : Int, b = (bitsV m : Int) := ⟨_, rfl⟩
    rw [← hbm] at KB he
    obtain ⟨x, hx⟩ : ∃ x, bits BinOp.and IntKind.i64 ad bm = x := ⟨_, rfl⟩
    rw [hx] at he
    obtain ⟨r, hr⟩ : ∃ r, (x == bm) = r := ⟨_, rfl⟩
    rw [hr] at he
    have hR : Hid (r = R) := hide (by rw [he]; rfl)
    clear he n1 n2 hbm hn
    go_enter Try.func20, Try.ntmps20
    go_upto_region 1 with (fail)
    refine wp_region_below W (Below.refl _ _) (by kernel_rfl) (by kernel_rfl) ?_
    repeat
      first
      | (go_big_quiet_step (first
      | (go_at_call 56; exact Calls.bel (KN.out _))
      | (go_at_call 45; exact Calls.bel_same (KB.out _))
      | fail))
      | (go_big_quiet_want; apply quiet_span; (intro p; go_simp; rfl); (try simp only [Act.put, List.setIfInBounds_toArray, List.set_cons_zero, List.set_cons_succ]); go_big_quiet_on)
    refine wpQuiet_nil ?_
    intro _ hw'
    obtain ⟨pq, hw''⟩ := hw'
    subst hw''
    go_wp2
    go_ret
    exact HF.out pq _ hR.out
end Go.Proofs.Ytmbddengmheeeaa
