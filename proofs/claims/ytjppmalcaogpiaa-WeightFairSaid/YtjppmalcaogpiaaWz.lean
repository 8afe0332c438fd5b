import Derived.Test.YtjppmalcaogpiaaWs
import Derived.Test.YtjppmalcaogpiaaLent
namespace Go.Proofs.Ytjppmalcaogpiaa
open Go.RowKit
set_option maxRecDepth 100000
attribute [local go_sem] ord_none_lt ord_none_gt ord_none_eq ord_none_ne ord_lt_lt ord_lt_gt ord_lt_eq ord_lt_ne ord_gt_lt ord_gt_gt ord_gt_eq ord_gt_ne ord_eq_lt ord_eq_gt ord_eq_eq ord_eq_ne store_fl unary_negF
theorem sum_set {l : List Nat} : ∀ {i : Nat} (_ : i < l.length), (l.set i (l.getD i 0 + 1)).sum = l.sum + 1 := by
  induction l with
  | nil => intro i h; simp at h
  | cons a l ih =>
    intro i h
    cases i with
    | zero => simp; omega
    | succ i =>
      have := ih (i := i) (by simpa using h)
      simp only [List.set_cons_succ, List.getD_cons_succ, List.sum_cons, this]; omega
theorem sum_zeros (m : Nat) : (cntL m []).sum = 0 := by
  have : cntL m [] = List.replicate m 0 := by
    apply List.ext_getElem?
    intro i
    by_cases h : i < m <;> simp [cntL, h]
  rw [this]; simp
theorem cntL_sum {m : Nat} {ts : List Nat} (hm : ∀ x ∈ ts, x < m) : (cntL m ts).sum = ts.length := by
  have : ∀ k, k ≤ ts.length → (cntL m (ts.take k)).sum = k := by
    intro k
    induction k with
    | zero => intro _; rw [List.take_zero, sum_zeros]
    | succ k ih =>
      intro hk
      have hx : ts[k] < m := hm _ (List.getElem_mem hk)
      rw [List.take_succ_eq_append_getElem hk, cntL_snoc, ← cntL_getD (ts.take k) hx, sum_set (by rw [cntL_len]; exact hx), ih (by omega)]
  have h := this ts.length (Nat.le_refl _)
  rwa [List.take_length] at h
theorem shareF_sum {l : List Nat} {n : Int} (h : shareF l n ≠ []) : ((shareF l n).sum : Int) = n := by
  unfold shareF at *
  by_cases c : turnsF l n = []
  · rw [if_pos c] at h; exact absurd rfl h
  · rw [if_neg c, cntL_sum turnsF_mem]
    obtain ⟨h1, h2, _⟩ := turnsF_len c
    omega
theorem shareF_len (l : List Nat) (n : Int) : (shareF l n).length ≤ 32 := by
  unfold shareF
  by_cases c : turnsF l n = []
  · rw [if_pos c]; simp
  · rw [if_neg c, cntL_len]; exact (turnsF_len c).2.2.2.1
theorem sum_take_le (l : List Nat) (k : Nat) : (l.take k).sum ≤ l.sum := by
  have h := List.take_append_drop k l
  have : l.sum = (l.take k).sum + (l.drop k).sum := by rw [← List.sum_append, h]
  omega
theorem shareF_sum_le (l : List Nat) (n : Int) (hn : n ≤ 4096) : (shareF l n).sum ≤ 4096 := by
  by_cases c : shareF l n = []
  · rw [c]; simp
  · have := shareF_sum c; omega

theorem TurnsPost.ins {w w' : World} {ts : List Nat} {e : Ending} {T : Nat} (h : TurnsPost w ts e w') (hT : T = ts.length) :
    ∃ A c, e = .returned (.slice A T c) ∧ T ≤ c ∧ Hid (InS w' w'.heap.size A ts) ∧ Hid (Below w.heap.size w w') := by
  obtain ⟨v, rfl, ho, hb⟩ := h
  obtain ⟨A, c, rfl, hc, hi⟩ := ho.ins
  subst hT
  exact ⟨A, c, rfl, hc, hide hi, hide hb⟩
theorem alike_self (A1 A2 : Option Addr) (c1 c2 : Nat) (l : List Nat) (T : Nat) (B : Nat) (w : World) (hT : T = l.length) (h1 : T ≤ 4096) (hb1 : InS w B A1 l) (hb2 : InS w B A2 l) :
    Calls Try.prog 25 #[.slice A1 T c1, .slice A2 T c2] w fun e w' => e = .returned (.bool true) ∧ ∃ n, w' = w.drewN n := by
  subst hT
  have h := alike_any A1 A2 c1 c2 l l B w h1 h1 hb1 hb2
  rwa [decide_eq_true rfl] at h

set_option maxHeartbeats 8000000 in
theorem weightTurns_any (A : Option Addr) (c : Nat) (l : List Nat) (n : Int) (w : World) (hl : l.length ≤ 140737488355328) (hn63 : -9223372036854775808 ≤ n ∧ n ≤ 9223372036854775807) (hb : FlS w w.heap.size A l) :
    Calls Try.prog 6 #[.slice A l.length c, .int .i64 n] w fun e w' => e = .returned (.bool true) ∧ Below w.heap.size w w' := by
  obtain ⟨n', hn'⟩ : ∃ n' : Int, ((600 < n ∧ n ≤ 4096) ∧ n' = 600) ∨ (¬ (600 < n ∧ n ≤ 4096) ∧ n' = n) := by
    by_cases h : 600 < n ∧ n ≤ 4096
    · exact ⟨600, .inl ⟨h, rfl⟩⟩
    · exact ⟨n, .inr ⟨h, rfl⟩⟩
  have hr : -9223372036854775808 ≤ n' ∧ n' ≤ 9223372036854775807 := by rcases hn' with ⟨_, h⟩ | ⟨_, h⟩ <;> omega
  obtain ⟨ts, hts⟩ : ∃ ts, ts = turnsF l n' := ⟨_, rfl⟩
  obtain ⟨ss, hss⟩ : ∃ ss, ss = shareF l n' := ⟨_, rfl⟩
  have htl : ts.length ≤ 4096 := by rw [hts]; exact turnsF_le l n'
  have hsl : ss.length ≤ 32 := by rw [hss]; exact shareF_len l n'
  have hsum : Hid (ss = [] ∨ (ss.sum : Int) = n') := by
    refine hide ?_
    by_cases h : ss = []
    · exact .inl h
    · right; rw [hss] at h ⊢; exact shareF_sum h
  have hsumle : Hid (ss.sum ≤ 4096) := by
    refine hide ?_
    by_cases h : ss = []
    · rw [h]; simp
    · have h1 := hsum.out.resolve_left h
      rw [hss] at h
      have h2 : turnsF l n' ≠ [] := fun e => h (by unfold shareF; rw [if_pos e])
      have := (turnsF_len h2).2.2.1
      omega
  obtain ⟨m, hm⟩ : ∃ m, m = l.length := ⟨_, rfl⟩
  have C1 := hide (turns_any A c l n' w.heap.size w hl hr (Nat.le_refl _) hb)
  have C2 := hide (fun w' (h : Below w.heap.size w w') => share_any A c l n' w.heap.size w' hl hr h.size (hb.below h (Nat.le_refl _)))
  have C3 := hide (fun w' (h : Below w.heap.size w w') => refturns_any A c l n' w.heap.size w' hl hr h.size (hb.below h (Nat.le_refl _)))
  have C4 := hide (fun w' (h : Below w.heap.size w w') => refshare_any A c l n' w.heap.size w' hl hr h.size (hb.below h (Nat.le_refl _)))
  rw [← hts, ← hm] at C1 C3
  rw [← hss, ← hm] at C2 C4
  rw [← hm]
  obtain ⟨T, hT⟩ : ∃ T, T = ts.length := ⟨_, rfl⟩
  obtain ⟨Z, hZ⟩ : ∃ Z, Z = ss.length := ⟨_, rfl⟩
  have HT := hide hT
  have HZ := hide hZ
  have HTL := hide htl
  have HSL := hide hsl
  have hZ32 : Z ≤ 32 := by omega
  have HN63 := hide hn63
  clear hts hss hm hT hZ htl hsl hl hr hb hn63
  have HN : Hid (-9223372036854775808 ≤ n' ∧ n' ≤ 9223372036854775807) := by refine hide ?_; have := HN63.out; rcases hn' with ⟨_, h⟩ | ⟨_, h⟩ <;> omega
  have hcase : ((600 < n ∧ n ≤ 4096) ∧ n' = 600) ∨ (n ≤ 600 ∧ n' = n) ∨ ((600 < n ∧ 4096 < n) ∧ n' = n) := by omega
  clear hn' HN63
  rcases hcase with ⟨⟨h6, h40⟩, rfl⟩ | ⟨h6, rfl⟩ | ⟨⟨h6, h40⟩, rfl⟩
  all_goals
    go_enter Try.func6, Try.ntmps6
    go_wp2_with fail
    refine C1.out.mono ?_
    rintro e w1 h1
    obtain ⟨A1, c1, rfl, hc1, I1, B1⟩ := h1.ins HT.out
    clear h1 C1
    go_wp2_with fail
    refine (C2.out _ B1.out).mono ?_
    rintro e w2 h2
    obtain ⟨A2, c2, rfl, hc2, I2, B2⟩ := h2.ins HZ.out
    clear h2 C2
    have W2 : Hid (Below w.heap.size w w2) := hide (below_two B1.out B2.out)
    have J1 : Hid (InS w2 w1.heap.size A1 ts) := hide (I1.out.below B2.out (Nat.le_refl _))
    have S12 : Hid (w1.heap.size ≤ w2.heap.size) := hide B2.out.size
    clear I1 B2
    go_wp2_with fail
    refine (C3.out _ W2.out).mono ?_
    rintro e w3 h3
    obtain ⟨A3, c3, rfl, hc3, I3, B3⟩ := h3.ins HT.out
    clear h3 C3
    have W3 : Hid (Below w.heap.size w w3) := hide (below_two W2.out B3.out)
    have K1 : Hid (InS w3 w3.heap.size A1 ts) := hide ((J1.out.below B3.out S12.out).more (by have := S12.out; have := B3.out.size; omega))
    have K2 : Hid (InS w3 w2.heap.size A2 ss) := hide (I2.out.below B3.out (Nat.le_refl _))
    have S23 : Hid (w2.heap.size ≤ w3.heap.size) := hide B3.out.size
    clear J1 I2 B3 S12
    go_wp2_with fail
    refine (alike_self A1 A3 c1 c3 ts T w3.heap.size w3 HT.out (by rw [HT.out]; exact HTL.out) K1.out I3.out).mono ?_
    rintro e w4 ⟨rfl, k4, rfl⟩
    have W4 : Hid (Below w.heap.size w (w3.drewN k4)) := hide ⟨W3.out.os, W3.out.tape, W3.out.output, W3.out.size, W3.out.block⟩
    have L2 : Hid (InS (w3.drewN k4) w2.heap.size A2 ss) := hide (K2.out.drewN k4)
    have S24 : Hid (w2.heap.size ≤ (w3.drewN k4).heap.size) := hide S23.out
    clear K1 K2 I3 W3 S23
    generalize w3.drewN k4 = w5 at W4 L2 S24 ⊢
    go_wp2_with fail
    refine (C4.out _ W4.out).mono ?_
    rintro e w6 h6'
    obtain ⟨A6, c6, rfl, hc6, I6, B6⟩ := h6'.ins HZ.out
    clear h6' C4
    have W6 : Hid (Below w.heap.size w w6) := hide (below_two W4.out B6.out)
    have L6 : Hid (InS w6 w6.heap.size A2 ss) := hide ((L2.out.below B6.out S24.out).more (by have := S24.out; have := B6.out.size; omega))
    clear L2 B6 S24 W4
    go_wp2_with fail
    refine (alike_self A2 A6 c2 c6 ss Z w6.heap.size w6 HZ.out (by omega) L6.out I6.out).mono ?_
    rintro e w7 ⟨rfl, k7, rfl⟩
    have W7 : Hid (Below w.heap.size w (w6.drewN k7)) := hide ⟨W6.out.os, W6.out.tape, W6.out.output, W6.out.size, W6.out.block⟩
    have L7 : Hid (InS (w6.drewN k7) (w6.drewN k7).heap.size A2 ss) := hide (L6.out.drewN k7)
    clear L6 I6 W6
    generalize w6.drewN k7 = w8 at W7 L7 ⊢
    go_wp2
    go_loop [7, 8] (fun u v => ∃ k x : Nat, k ≤ Z ∧ x ≤ 4096 ∧ u = .int .i64 (x : Int) ∧ v = .int .i64 (k : Int) ∧ Hid (x = (ss.take k).sum)) (fun _ v => Z - (intOf v).toNat)
    case atStart => exact ⟨0, 0, by omega, by omega, rfl, rfl, hide (by simp)⟩
    case round =>
      obtain ⟨k, x, hk, hx, rfl, rfl, hxs⟩ := hrel
      by_cases hlt : k < Z
      · obtain ⟨b, off, y, rfl, _, hy, hcy⟩ := L7.out.at (j := k) (by rw [← HZ.out]; exact hlt)
        have HXS : Hid (x + y = (ss.take (k + 1)).sum) := by
          refine hide ?_
          rw [List.take_succ_eq_append_getElem (by rw [← HZ.out]; exact hlt), List.sum_append, ← hxs.out, hy]; simp
        have hxy : x + y ≤ 4096 := by rw [HXS.out]; exact Nat.le_trans (sum_take_le _ _) hsumle.out
        clear hy hxs
        go_wp2
        go_round
        case rel => exact ⟨k + 1, x + y, by omega, hxy, by go_num, by go_num, HXS⟩
        case measure => simp [intOf]; omega
      · obtain rfl : k = Z := by omega
        have HX : Hid (x = ss.sum) := by rw [hxs.out, List.take_of_length_le (by rw [← HZ.out]; exact Nat.le_refl _)]; exact hide rfl
        clear hlt hxs
        by_cases hz : k = 0
        · subst hz
          go_wp2_with fail
          refine (knownW_any _).mono ?_
          rintro e w9 ⟨rfl, B9⟩
          have H9 := hide (below_two W7.out B9)
          clear B9
          go_wp2
          go_ret
          exact ⟨rfl, H9.out⟩
        · have hz2 : ((k : Int) == 0) = false := by simp; omega
          have hxn := hsum.out.resolve_left (fun h => hz (by rw [HZ.out, h]; rfl))
          rw [← HX.out] at hxn
          clear hz
          first
            | (have hxn2 : ((x : Int) == 600) = true := by simp; omega)
            | skip
          first
            | subst hxn
            | clear hxn
          have hxx : ((x : Int) == (x : Int)) = true := by simp
          go_wp2_with fail
          refine (knownW_any _).mono ?_
          rintro e w9 ⟨rfl, B9⟩
          have H9 := hide (below_two W7.out B9)
          clear B9
          go_wp2
          go_ret
          exact ⟨rfl, H9.out⟩
end Go.Proofs.Ytjppmalcaogpiaa
