import Derived.Test.YtjppmalcaogpiaaWz
namespace Go.Proofs.Ytjppmalcaogpiaa
open Go.RowKit
set_option maxRecDepth 100000
attribute [local go_sem] ord_none_lt ord_none_gt ord_none_eq ord_none_ne ord_lt_lt ord_lt_gt ord_lt_eq ord_lt_ne ord_gt_lt ord_gt_gt ord_gt_eq ord_gt_ne ord_eq_lt ord_eq_gt ord_eq_eq ord_eq_ne store_fl unary_negF
theorem turnsF_first {l : List Nat} {n m : Nat} (h : turnsF l (n : Int) ≠ []) (hm : m ≤ 4096) (hnm : n ≤ m) : turnsF l (n : Int) = (turnsF l (m : Int)).take n ∧ (turnsF l (m : Int)).length = m := by
  obtain ⟨h1, h2, h3, h4, h5⟩ := turnsF_len h
  obtain ⟨j, hj, hjp⟩ := best_part h5
  have e1 : turnsF l (n : Int) = turnsP (partsL l) n := by unfold turnsF; rw [if_neg (by omega)]; rfl
  have e2 : turnsF l (m : Int) = turnsP (partsL l) m := by unfold turnsF; rw [if_neg (by omega)]; rfl
  rw [e1, e2]
  exact ⟨turnsP_first hj hjp n m hnm, turnsP_len hj hjp m⟩
theorem turnsF_none {l : List Nat} {n m : Nat} (h : turnsF l (n : Int) = []) (h1 : 1 ≤ n) (hn : n ≤ 4096) : turnsF l (m : Int) = [] := by
  by_cases hc : 32 < l.length ∨ bestF l = 0
  · exact turnsF_nil (.inr (.inr hc))
  · exfalso
    have hb : bestF l ≠ 0 := by omega
    obtain ⟨j, hj, hjp⟩ := best_part hb
    have e1 : turnsF l (n : Int) = turnsP (partsL l) n := by unfold turnsF; rw [if_neg (by omega)]; rfl
    have := turnsP_len hj hjp n
    rw [← e1, h] at this
    simp at this; omega

set_option maxHeartbeats 8000000 in
theorem weightFirst_any (A : Option Addr) (c : Nat) (l : List Nat) (n0 m0 : Int) (w : World) (hl : l.length ≤ 140737488355328) (hb : FlS w w.heap.size A l) :
    Calls Try.prog 9 #[.slice A l.length c, .int .i64 n0, .int .i64 m0] w fun e w' => e = .returned (.bool true) ∧ Below w.heap.size w w' := by
  have q1 := count_lt n0 (n := 200) (by omega)
  have q2 := count_lt m0 (n := 200) (by omega)
  have D1 := hide (fun w => count_any n0 200 w (by omega) (by omega))
  have D2 := hide (fun w => count_any m0 200 w (by omega) (by omega))
  generalize countS n0 200 = n at q1 D1
  generalize countS m0 200 = k at q2 D2
  obtain ⟨m, hm⟩ : ∃ m, m = n + k := ⟨_, rfl⟩
  have hmi : (n : Int) + (k : Int) = (m : Int) := by omega
  have hm4 : m ≤ 4096 := by omega
  have hnm : n ≤ m := by omega
  obtain ⟨ta, hta⟩ : ∃ ts, ts = turnsF l (n : Int) := ⟨_, rfl⟩
  obtain ⟨tb, htb⟩ : ∃ ts, ts = turnsF l (m : Int) := ⟨_, rfl⟩
  have hla : ta.length ≤ 4096 := by rw [hta]; exact turnsF_le l _
  have hcs : (ta = [] ∧ (n < 1 ∨ tb = [])) ∨ (ta ≠ [] ∧ tb.length = m ∧ ta = tb.take n) := by
    by_cases h : ta = []
    · left
      refine ⟨h, ?_⟩
      by_cases h1 : n < 1
      · exact .inl h1
      · right; rw [hta] at h; rw [htb]; exact turnsF_none h (by omega) (by omega)
    · right
      refine ⟨h, ?_⟩
      rw [hta] at h
      obtain ⟨e1, e2⟩ := turnsF_first h hm4 hnm
      rw [hta, htb]; exact ⟨e2, e1⟩
  obtain ⟨M, hM⟩ : ∃ m, m = l.length := ⟨_, rfl⟩
  have C1 := hide (turns_any A c l (n : Int) w.heap.size w hl (by omega) (Nat.le_refl _) hb)
  have C2 := hide (fun w' (h : Below w.heap.size w w') => turns_any A c l (m : Int) w.heap.size w' hl (by omega) h.size (hb.below h (Nat.le_refl _)))
  rw [← hta, ← hM] at C1
  rw [← htb, ← hM] at C2
  rw [← hM]
  obtain ⟨T, hT⟩ : ∃ T, T = ta.length := ⟨_, rfl⟩
  obtain ⟨U, hU⟩ : ∃ T, T = tb.length := ⟨_, rfl⟩
  have HT := hide hT
  have HU := hide hU
  have HLA : Hid (T ≤ 4096) := by rw [hT]; exact hide hla
  have HC := hide hcs
  have HMI := hide hmi
  have h200 : (n : Int) + (k : Int) ≤ 4096 := by omega
  clear hta htb hM hT hU hla hcs hm hmi hb hl
  go_enter Try.func9, Try.ntmps9
  go_wp2_with fail
  refine (D1.out _).mono ?_
  rintro e w1 ⟨rfl, rfl⟩
  go_wp2_with fail
  refine (D2.out _).mono ?_
  rintro e w1 ⟨rfl, rfl⟩
  clear D1 D2
  go_wp2_with fail
  refine C1.out.mono ?_
  rintro e w1 h1
  obtain ⟨A1, c1, rfl, hc1, I1, B1⟩ := h1.ins HT.out
  clear h1 C1
  go_wp2_with fail
  rw [HMI.out]
  refine (C2.out _ B1.out).mono ?_
  rintro e w2 h2
  obtain ⟨A2, c2, rfl, hc2, I2, B2⟩ := h2.ins HU.out
  clear h2 C2
  have W2 : Hid (Below w.heap.size w w2) := hide (below_two B1.out B2.out)
  have J1 : Hid (InS w2 w2.heap.size A1 ta) := hide ((I1.out.below B2.out (Nat.le_refl _)).more B2.out.size)
  clear I1 B2 B1
  rcases HC.out with ⟨ha, hb⟩ | ⟨ha, hb, hab⟩
  · have hT0 : T = 0 := by rw [HT.out, ha]; rfl
    subst hT0
    rcases hb with hn1 | hb
    · have hn1' : (n : Int) < 1 := by omega
      clear ha HC
      go_wp2_with fail
      refine (knownW_any _).mono ?_
      rintro e w9 ⟨rfl, B9⟩
      have H9 := hide (below_two W2.out B9)
      clear B9
      go_wp2
      go_ret
      exact ⟨rfl, H9.out⟩
    · have hU0 : U = 0 := by rw [HU.out, hb]; rfl
      subst hU0
      clear ha hb HC
      by_cases hn1 : n < 1
      · have hn1' : (n : Int) < 1 := by omega
        go_wp2_with fail
        refine (knownW_any _).mono ?_
        rintro e w9 ⟨rfl, B9⟩
        have H9 := hide (below_two W2.out B9)
        clear B9
        go_wp2
        go_ret
        exact ⟨rfl, H9.out⟩
      · have hn1' : ¬ (n : Int) < 1 := by omega
        go_wp2_with fail
        refine (knownW_any _).mono ?_
        rintro e w9 ⟨rfl, B9⟩
        have H9 := hide (below_two W2.out B9)
        clear B9
        go_wp2
        go_ret
        exact ⟨rfl, H9.out⟩
  · have hT0 : ((T : Int) == 0) = false := by
      have : T ≠ 0 := fun h => ha (List.eq_nil_of_length_eq_zero (by rw [← HT.out]; exact h))
      simp; omega
    have hUm : U = m := by rw [HU.out]; exact hb
    subst hUm
    have HTN : Hid (T = n) := by
      refine hide ?_
      rw [HT.out, hab, List.length_take, hb]; omega
    have hTn := HTN.out
    have hnc : (n : Int) ≤ (c2 : Int) := by omega
    have JT : Hid (InS w2 w2.heap.size A2 ta) := by rw [hab]; exact hide (I2.out.take n)
    have hAB := hide (alike_self A1 A2 c1 c2 ta T w2.heap.size w2 HT.out HLA.out J1.out JT.out)
    have hUU : ((U : Int) == (U : Int)) = true := by simp
    subst hTn
    clear ha hb hab HC
    go_wp2_with fail
    refine hAB.out.mono ?_
    rintro e w4 ⟨rfl, k4, rfl⟩
    have W4 : Hid (Below w.heap.size w (w2.drewN k4)) := hide ⟨W2.out.os, W2.out.tape, W2.out.output, W2.out.size, W2.out.block⟩
    generalize w2.drewN k4 = w5 at W4 ⊢
    go_wp2_with fail
    refine (knownW_any _).mono ?_
    rintro e w9 ⟨rfl, B9⟩
    have H9 := hide (below_two W4.out B9)
    clear B9
    go_wp2
    go_ret
    exact ⟨rfl, H9.out⟩
end Go.Proofs.Ytjppmalcaogpiaa
