/-
  The walks of tuple's Counts.
-/
import Derived.Test.YtcfckhdohcaffaaMna
import Derived.Deep.RegionWith
namespace Go.Proofs.Ytcfckhdohcaffaa
open Go.RowKit
theorem rs_cnt : rowSize Try.prog 118 = some 13 := by kernel_rfl
attribute [local go_sem ↓] exec_span exec_put exec_build heap_alloc_new heap_old
attribute [local go_sem] spanQ_ptr spanC_some heap_of_drew heap_of_drewN rs_cnt putAt_ptr putOk_ptr oldOk_some World.setRow_alloc_new
set_option maxRecDepth 100000
set_option linter.unusedVariables false
set_option linter.unusedSimpArgs false

def u64V (n : Nat) : Value := .int .u64 (n : Int)
/-- two numbers together, up to a most. -/
def togS (a b most : Nat) : Nat := if most - a < b then most else a + b
def okKind (z : Int) : Bool := decide (0 ≤ z) && decide (z < 12)
/-- block g holds counts: their most, and twelve numbers. -/
structure CntS (w : World) (g most : Nat) (l : List Nat) : Prop where
  blk : w.heap[g]? = some (.cells (u64V most :: l.map u64V).toArray 118 (0, 0))
  len : l.length = 12
  le : ∀ n ∈ l, n ≤ most
  m : most < 18446744073709551616
theorem CntS.keep {w w' : World} {g most : Nat} {l : List Nat} (h : CntS w g most l) (hb : w'.heap[g]? = w.heap[g]?) : CntS w' g most l := ⟨hb.trans h.blk, h.len, h.le, h.m⟩
theorem CntS.c0 {w : World} {g most : Nat} {l : List Nat} (h : CntS w g most l) : w.cell? ⟨g, 0, none⟩ = some (.int .u64 (most : Int)) := (cell_of_row w g 0 _ _ (0, 0) h.blk).trans rfl
theorem CntS.ck {w : World} {g most : Nat} {l : List Nat} (h : CntS w g most l) (k : Nat) (hk : k < l.length) : w.cell? ⟨g, 1 + k, none⟩ = some (.int .u64 (l[k] : Int)) := by
  rw [cell_of_row w g (1 + k) _ _ (0, 0) h.blk, Nat.add_comm 1 k]
  simp [u64V, hk]
theorem CntS.lt {w : World} {g most : Nat} {l : List Nat} (h : CntS w g most l) : g < w.heap.size := (Array.getElem?_eq_some_iff.1 h.blk).1
theorem togS_le {a b most : Nat} (h : a ≤ most) : togS a b most ≤ most := by unfold togS; split <;> omega
theorem CntS.set {w : World} {g most : Nat} {l : List Nat} (h : CntS w g most l) (k n : Nat) (hn : n ≤ most) : CntS (w.setCell ⟨g, 1 + k, none⟩ (.int .u64 (n : Int))) g most (l.set k n) := by
  refine ⟨?_, by rw [List.length_set]; exact h.len, fun x hx => ?_, h.m⟩
  · rw [heap_setCell_same w g (1 + k) _ _ (.int .u64 (n : Int)) h.blk, List.setIfInBounds_toArray, Nat.add_comm 1 k, List.set_cons_succ, List.map_set]
    rfl
  · rcases List.mem_or_eq_of_mem_set hx with hx | rfl
    · exact h.le x hx
    · exact hn

set_option maxHeartbeats 1000000 in
theorem rightKind_any (w : World) (z : Int) : Calls Try.prog 69 #[.int .i64 z] w fun e w' => e = .returned (.bool (okKind z)) ∧ w = w' := by
  by_cases h0 : 0 ≤ z
  · have hb : Hid (okKind z = decide (z < 12)) := hide (by unfold okKind; rw [decide_eq_true h0]; rfl)
    by_cases h1 : z < 12
    · go_enter Try.func69, Try.ntmps69
      go_wp2
      go_ret
      exact ⟨ret_b (by rw [hb.out]; simp [h1]), rfl⟩
    · go_enter Try.func69, Try.ntmps69
      go_wp2
      go_ret
      exact ⟨ret_b (by rw [hb.out]; simp [h1]), rfl⟩
  · have hb : Hid (okKind z = false) := hide (by unfold okKind; rw [decide_eq_false h0]; rfl)
    go_enter Try.func69, Try.ntmps69
    go_wp2
    go_ret
    exact ⟨ret_b (by rw [hb.out]), rfl⟩
set_option maxHeartbeats 1000000 in
theorem together_any (w : World) (a b most : Nat) (ha : a ≤ most) (hb : b < 18446744073709551616) (hm : most < 18446744073709551616) :
    Calls Try.prog 70 #[.int .u64 (a : Int), .int .u64 (b : Int), .int .u64 (most : Int)] w fun e w' => e = .returned (.int .u64 ((togS a b most : Nat) : Int)) ∧ w = w' := by
  have hs : IntKind.u64.wrap ((most : Int) - (a : Int)) = ((most - a : Nat) : Int) := by rw [show (most : Int) - (a : Int) = ((most - a : Nat) : Int) by omega]; exact IntWalk.u64_in _ (by omega)
  obtain ⟨r, hr⟩ : ∃ r, r = most - a := ⟨_, rfl⟩
  rw [← hr] at hs
  by_cases h : r < b
  · have h' : (r : Int) < (b : Int) := by omega
    have hT : Hid (togS a b most = most) := hide (by unfold togS; rw [if_pos (by omega)])
    clear hr
    go_enter Try.func70, Try.ntmps70
    go_wp2
    go_ret
    exact ⟨by rw [hT.out]; rfl, rfl⟩
  · have h' : ¬ (r : Int) < (b : Int) := by omega
    have hT : Hid (togS a b most = a + b) := hide (by unfold togS; rw [if_neg (by omega)])
    have hw : IntKind.u64.wrap ((a : Int) + (b : Int)) = ((a + b : Nat) : Int) := by rw [show (a : Int) + (b : Int) = ((a + b : Nat) : Int) by omega]; exact IntWalk.u64_in _ (by omega)
    clear hr
    go_enter Try.func70, Try.ntmps70
    go_wp2
    go_ret
    exact ⟨by rw [hT.out]; first | rfl | simp, rfl⟩
theorem built_cnt (m : Int) : Try.prog.built 118 [(0, .int .u64 m)] = some #[.int .u64 m, .int .u64 0, .int .u64 0, .int .u64 0, .int .u64 0, .int .u64 0, .int .u64 0, .int .u64 0, .int .u64 0, .int .u64 0, .int .u64 0, .int .u64 0, .int .u64 0] := by kernel_rfl
set_option maxHeartbeats 1000000 in
theorem newC_any (w : World) (most : Nat) (hm : most < 18446744073709551616) :
    Calls Try.prog 43 #[.int .u64 (most : Int)] w fun e w' => ∃ g, e = .returned (.pointer (some ⟨g, 0, none⟩)) ∧ CntS w' g most (List.replicate 12 0) ∧ w.heap.size ≤ g ∧ Below w.heap.size w w' := by
  have hb := built_cnt (most : Int)
  obtain ⟨X, hX⟩ : ∃ X : Array Value, X = #[.int .u64 (most : Int), .int .u64 0, .int .u64 0, .int .u64 0, .int .u64 0, .int .u64 0, .int .u64 0, .int .u64 0, .int .u64 0, .int .u64 0, .int .u64 0, .int .u64 0, .int .u64 0] := ⟨_, rfl⟩
  rw [← hX] at hb
  have hF : Hid (CntS (w.alloc (.cells X 118)) w.heap.size most (List.replicate 12 0)) := hide ⟨by rw [heap_alloc_new, hX]; rfl, rfl, fun n hn => by rw [(List.mem_replicate.1 hn).2]; exact Nat.zero_le _, hm⟩
  clear hX
  go_enter Try.func43, Try.ntmps43
  go_wp2
  go_ret
  exact ⟨_, rfl, hF.out, Nat.le_refl _, (Below.refl _ _).alloc (Nat.le_refl _) _⟩
def getL (l : List Nat) (z : Int) : Nat := if okKind z = true then l.getD z.toNat 0 else 0
theorem okKind_nat {z : Int} (h : okKind z = true) : ∃ k : Nat, z = (k : Int) ∧ k < 12 := by
  unfold okKind at h
  simp at h
  exact ⟨z.toNat, by omega, by omega⟩
set_option maxHeartbeats 1000000 in
theorem getC_any (w : World) (g most : Nat) (l : List Nat) (h : CntS w g most l) (z : Int) :
    Calls Try.prog 45 #[.pointer (some ⟨g, 0, none⟩), .int .i64 z] w fun e w' => e = .returned (.int .u64 ((getL l z : Nat) : Int)) ∧ w = w' := by
  have K := rightKind_any w z
  by_cases hk : okKind z = true
  · rw [hk] at K
    have HK := hide K
    obtain ⟨k, rfl, hk12⟩ := okKind_nat hk
    have hkl : k < l.length := by rw [h.len]; exact hk12
    have ck := h.ck k hkl
    have hG : Hid (getL l (k : Int) = l[k]) := hide (by unfold getL; rw [if_pos hk]; simp [List.getD_eq_getElem?_getD, List.getElem?_eq_getElem hkl])
    generalize l[k] = n at ck hG
    clear h K hk hkl
    go_enter Try.func45, Try.ntmps45
    go_wp2_with fail
    refine HK.out.mono ?_
    rintro e w1 ⟨rfl, rfl⟩
    dsimp only
    go_wp2
    go_ret
    exact ⟨by rw [hG.out]; rfl, rfl⟩
  · have hkf : okKind z = false := by simpa using hk
    rw [hkf] at K
    have HK := hide K
    have hG : Hid (getL l z = 0) := hide (by unfold getL; rw [if_neg hk])
    clear h K hk hkf
    go_enter Try.func45, Try.ntmps45
    go_wp2_with fail
    refine HK.out.mono ?_
    rintro e w1 ⟨rfl, rfl⟩
    dsimp only
    go_wp2
    go_ret
    exact ⟨by rw [hG.out]; rfl, rfl⟩
set_option maxHeartbeats 1000000 in
theorem getN_any (w : World) (z : Int) : Calls Try.prog 45 #[.pointer none, .int .i64 z] w fun e w' => e = .returned (.int .u64 0) ∧ w = w' := by
  go_enter Try.func45, Try.ntmps45
  go_wp2
  go_ret
  exact ⟨rfl, rfl⟩
set_option maxHeartbeats 1000000 in
theorem addN_any (w : World) (z n : Int) : Calls Try.prog 44 #[.pointer none, .int .i64 z, .int .u64 n] w fun e w' => e = .returned (.int .i64 2) ∧ w = w' := by
  go_enter Try.func44, Try.ntmps44
  go_wp2
  go_ret
  exact ⟨rfl, rfl⟩
def kE (z : Int) : Int := if okKind z = true then 0 else 1
def addL (l : List Nat) (z : Int) (n most : Nat) : List Nat := if okKind z = true then l.set z.toNat (togS (getL l z) n most) else l
set_option maxHeartbeats 2000000 in
theorem addC_any (w : World) (g most : Nat) (l : List Nat) (h : CntS w g most l) (z : Int) (n : Nat) (hn : n < 18446744073709551616) :
    Calls Try.prog 44 #[.pointer (some ⟨g, 0, none⟩), .int .i64 z, .int .u64 (n : Int)] w fun e w' => e = .returned (.int .i64 (kE z)) ∧ CntS w' g most (addL l z n most) ∧ w.grownBy w' (some g) := by
  have K := rightKind_any w z
  by_cases hk : okKind z = true
  · rw [hk] at K
    have HK := hide K
    obtain ⟨k, rfl, hk12⟩ := okKind_nat hk
    have hkl : k < l.length := by rw [h.len]; exact hk12
    have ck := h.ck k hkl
    have c0 := h.c0
    have fk : w.frozen? ⟨g, 1 + k, none⟩ = false := frozen_of_row w g _ _ _ h.blk
    have hG : getL l (k : Int) = l[k] := by unfold getL; rw [if_pos hk]; simp [List.getD_eq_getElem?_getD, List.getElem?_eq_getElem hkl]
    have hA : Hid (addL l (k : Int) n most = l.set k (togS l[k] n most)) := hide (by unfold addL; rw [if_pos hk, hG]; rfl)
    have hle := h.le l[k] (List.getElem_mem hkl)
    obtain ⟨a, ha⟩ : ∃ a, a = l[k] := ⟨_, rfl⟩
    rw [← ha] at ck hA hle
    have KT := hide (fun (W1 : World) => together_any W1 a n most hle hn h.m)
    have HS := hide (h.set k (togS a n most) (togS_le hle))
    have HG := hide (grown_set w g (1 + k) (.int .u64 ((togS a n most : Nat) : Int)))
    have c0d : w.drew.cell? ⟨g, 0, none⟩ = some (.int .u64 (most : Int)) := c0
    have ckd : w.drew.cell? ⟨g, 1 + k, none⟩ = some (.int .u64 (a : Int)) := ck
    have fkd : w.drew.frozen? ⟨g, 1 + k, none⟩ = false := fk
    have i0 : (0 : Int) ≤ (k : Int) := by omega
    have i1 : (k : Int) < 12 := by omega
    have HK2 : Hid (kE (k : Int) = 0) := hide (by unfold kE; rw [if_pos hk])
    obtain ⟨t, ht⟩ : ∃ t, t = togS a n most := ⟨_, rfl⟩
    rw [← ht] at KT HS HG hA
    clear h K hk hkl hG ha hle ht
    go_enter Try.func44, Try.ntmps44
    go_wp2_with fail
    refine HK.out.mono ?_
    rintro e w1 ⟨rfl, rfl⟩
    dsimp only
    go_wp2_with fail
    go_region_with (go_at_call 70; (with_reducible refine (KT.out _).mono ?_); rintro e w2 ⟨rfl, rfl⟩)
    all_goals (
      go_wp2
      go_ret
      exact ⟨by rw [HK2.out]; rfl, by rw [hA.out]; exact HS.out.keep rfl, grown_drewN HG.out 1⟩)
  · have hkf : okKind z = false := by simpa using hk
    rw [hkf] at K
    have HK := hide K
    have hA : Hid (addL l z n most = l) := hide (by unfold addL; rw [if_neg hk])
    have HH := hide h
    have HKF : Hid (kE z = 1) := hide (by unfold kE; rw [if_neg hk])
    clear h K hk
    go_enter Try.func44, Try.ntmps44
    go_wp2_with fail
    refine HK.out.mono ?_
    rintro e w1 ⟨rfl, rfl⟩
    dsimp only
    clear hkf
    go_wp2
    all_goals (
      go_ret
      exact ⟨by rw [HKF.out]; rfl, by rw [hA.out]; exact HH.out, World.grownBy.refl _ _⟩)
end Go.Proofs.Ytcfckhdohcaffaa
