import Derived.Test.YtjppmalcaogpiaaWu
namespace Go.Proofs.Ytjppmalcaogpiaa
open Go.RowKit
set_option maxRecDepth 100000
attribute [local go_sem] ord_none_lt ord_none_gt ord_none_eq ord_none_ne ord_lt_lt ord_lt_gt ord_lt_eq ord_lt_ne ord_gt_lt ord_gt_gt ord_gt_eq ord_gt_ne ord_eq_lt ord_eq_gt ord_eq_eq ord_eq_ne store_fl unary_negF
/-- the slice that begins at A reads, in world w and below block B, as the whole numbers l. -/
def InS (w : World) (B : Nat) (A : Option Addr) (l : List Nat) : Prop :=
  0 < l.length → ∃ b off, A = some ⟨b, off, none⟩ ∧ b < B ∧ ∀ i (h : i < l.length), w.cell? ⟨b, off + i, none⟩ = some (.int .i64 (l[i] : Int))
theorem InS.nil (w : World) (B : Nat) (A : Option Addr) : InS w B A [] := fun h => absurd h (by simp)
theorem InS.keep {w w' : World} {B : Nat} {A : Option Addr} {l : List Nat} (h : InS w B A l) (hk : ∀ p : Addr, p.block < B → w'.cell? p = w.cell? p) : InS w' B A l := fun hl => by
  obtain ⟨b, off, e, hb, hc⟩ := h hl
  exact ⟨b, off, e, hb, fun i hi => (hk _ hb).trans (hc i hi)⟩
theorem InS.more {w : World} {B B' : Nat} {A : Option Addr} {l : List Nat} (h : InS w B A l) (hB : B ≤ B') : InS w B' A l := fun hl => by
  obtain ⟨b, off, e, hb, hc⟩ := h hl
  exact ⟨b, off, e, by omega, hc⟩
theorem InS.below {w w' : World} {B C : Nat} {A : Option Addr} {l : List Nat} (h : InS w B A l) (hb : Below C w w') (hC : B ≤ C) : InS w' B A l := h.keep fun _ hp => hb.cell (by omega)
theorem InS.drewN {w : World} {B : Nat} {A : Option Addr} {l : List Nat} (h : InS w B A l) (n : Nat) : InS (w.drewN n) B A l := h
theorem InS.take {w : World} {B : Nat} {A : Option Addr} {l : List Nat} (h : InS w B A l) (n : Nat) : InS w B A (l.take n) := fun hl => by
  rw [List.length_take] at hl
  obtain ⟨b, off, e, hb, hc⟩ := h (by omega)
  refine ⟨b, off, e, hb, fun i hi => ?_⟩
  rw [List.length_take] at hi
  rw [hc i (by omega), List.getElem_take]
theorem OwnR.ins {w : World} {base : Nat} {v : Value} {l : List Nat} (h : OwnR w base 3 v (l.map inV)) : ∃ A c, v = .slice A l.length c ∧ l.length ≤ c ∧ InS w w.heap.size A l := by
  rcases Nat.eq_zero_or_pos l.length with h0 | hp
  · obtain rfl : l = [] := List.eq_nil_of_length_eq_zero h0
    obtain ⟨A, c, e, _⟩ := h.shape
    exact ⟨A, c, by simpa using e, by simp, InS.nil _ _ _⟩
  · obtain ⟨g, c, e, _, hgl, hc⟩ := h.pos (by simpa using hp)
    refine ⟨_, c, by simpa using e, by simpa using hc, fun _ => ⟨g, 0, rfl, hgl, fun i hi => ?_⟩⟩
    rw [e] at h
    have := h.cell i (by simpa using hi)
    rw [Nat.zero_add, this]; simp [inV]
theorem InS.at {w : World} {B : Nat} {A : Option Addr} {l : List Nat} (h : InS w B A l) {j : Nat} (hj : j < l.length) :
    ∃ b off x, A = some ⟨b, off, none⟩ ∧ b < B ∧ x = l[j] ∧ w.cell? ⟨b, off + j, none⟩ = some (.int .i64 (x : Int)) := by
  obtain ⟨b, off, e, hb, hc⟩ := h (by omega)
  exact ⟨b, off, l[j], e, hb, rfl, hc j hj⟩

set_option maxHeartbeats 1000000 in
theorem alike_any (A1 A2 : Option Addr) (c1 c2 : Nat) (l1 l2 : List Nat) (B : Nat) (w : World) (h1 : l1.length ≤ 4096) (h2 : l2.length ≤ 4096) (hb1 : InS w B A1 l1) (hb2 : InS w B A2 l2) :
    Calls Try.prog 25 #[.slice A1 l1.length c1, .slice A2 l2.length c2] w fun e w' => e = .returned (.bool (decide (l1 = l2))) ∧ ∃ n, w' = w.drewN n := by
  obtain ⟨n1, hn1⟩ : ∃ n, n = l1.length := ⟨_, rfl⟩
  obtain ⟨n2, hn2⟩ : ∃ n, n = l2.length := ⟨_, rfl⟩
  rw [← hn1] at h1 ⊢
  rw [← hn2] at h2 ⊢
  by_cases hne : n1 = n2
  · subst hne
    have L1 := hide hn1
    have L2 := hide hn2
    have H1 := hide hb1
    have H2 := hide hb2
    clear hn1 hn2 hb1 hb2
    have hnn : ((n1 : Int) != (n1 : Int)) = false := by simp
    go_enter Try.func25, Try.ntmps25
    go_wp2
    go_loopw [5] (fun v wr => ∃ j : Nat, j ≤ n1 ∧ v = .int .i64 (j : Int) ∧ Hid (l1.take j = l2.take j) ∧ Hid (∃ n, wr = w.drewN n)) (fun v _ => n1 - (intOf v).toNat)
    case atStart => exact ⟨0, by omega, rfl, hide rfl, hide ⟨0, rfl⟩⟩
    case round =>
      obtain ⟨j, hj, rfl, htk, hw⟩ := hrel
      by_cases hlt : j < n1
      · have hI1 : InS wr B A1 l1 := by obtain ⟨n, rfl⟩ := hw.out; exact H1.out.drewN n
        have hI2 : InS wr B A2 l2 := by obtain ⟨n, rfl⟩ := hw.out; exact H2.out.drewN n
        obtain ⟨b1, o1, x, rfl, _, hx, hc1⟩ := hI1.at (j := j) (by have := L1.out; omega)
        obtain ⟨b2, o2, y, rfl, _, hy, hc2⟩ := hI2.at (j := j) (by have := L2.out; omega)
        have T1 : l1.take (j + 1) = l1.take j ++ [x] := by rw [hx]; exact List.take_succ_eq_append_getElem _
        have T2 : l2.take (j + 1) = l2.take j ++ [y] := by rw [hy]; exact List.take_succ_eq_append_getElem _
        by_cases hxy : x = y
        · subst hxy
          have HT : Hid (l1.take (j + 1) = l2.take (j + 1)) := by rw [T1, T2, htk.out]; exact hide rfl
          clear T1 T2 hx hy hI1 hI2 htk
          have hxx : ((x : Int) != (x : Int)) = false := by simp
          have hji : (j : Int) < (n1 : Int) := by omega
          go_wp2
          go_quiet (fail)
          go_wp2
          go_roundw
          case rel => exact ⟨j + 1, by omega, by go_num, HT, hide (by obtain ⟨k, hk⟩ := hw.out; exact ⟨k + nq, by rw [hk, World.drewN_drewN]⟩)⟩
          case measure => simp [intOf]; omega
        · have HF : Hid (decide (l1 = l2) = false) := by
            refine hide (decide_eq_false fun e => hxy ?_)
            subst e
            rw [hx, hy]
          have hxx : ((x : Int) != (y : Int)) = true := by simp; omega
          have hji : (j : Int) < (n1 : Int) := by omega
          clear T1 T2 hx hy hI1 hI2 htk hxy
          go_wp2
          go_quiet (fail)
          go_wp2
          go_ret
          exact ⟨ret_bool HF.out.symm, by obtain ⟨k, hk⟩ := hw.out; exact ⟨k + nq, by rw [hk, World.drewN_drewN]⟩⟩
      · obtain rfl : j = n1 := by omega
        have HF : Hid (decide (l1 = l2) = true) := by
          refine hide (decide_eq_true ?_)
          have := htk.out
          rwa [List.take_of_length_le (by have := L1.out; omega), List.take_of_length_le (by have := L2.out; omega)] at this
        clear hlt htk
        go_wp2
        go_ret
        exact ⟨ret_bool HF.out.symm, hw.out⟩
  · have hnn : ((n1 : Int) != (n2 : Int)) = true := by simp; omega
    have HF : Hid (decide (l1 = l2) = false) := hide (decide_eq_false fun e => hne (by rw [hn1, hn2, e]))
    clear hne hn1 hn2 hb1 hb2
    go_enter Try.func25, Try.ntmps25
    go_wp2
    go_ret
    exact ⟨ret_bool HF.out.symm, 0, rfl⟩

theorem clF_nan {b : Nat} (h : fI < fR b) : clF b = 0 := if_pos h
theorem known_best {b : Nat} (h : fI < fR b) : bestF [4611686018427387904, 4607182418800017408, 0, b] = 4611686018427387904 := by
  simp only [bestF, List.foldl, clF_nan h]; decide +kernel
theorem known_parts {b : Nat} (h : fI < fR b) : partsL [4611686018427387904, 4607182418800017408, 0, b] = [fOne, 4602678819172646912, 0, 0] := by
  have e : prtF b 4611686018427387904 = 0 := by unfold prtF; rw [clF_nan h, if_pos (.inl rfl)]
  simp only [partsL, known_best h, List.map, e]; decide +kernel
theorem known_turns {b : Nat} (h : fI < fR b) : turnsF [4611686018427387904, 4607182418800017408, 0, b] 6 = [0, 0, 1, 0, 0, 1] := by
  unfold turnsF
  rw [known_best h, known_parts h, if_neg (by simp)]; decide +kernel
end Go.Proofs.Ytjppmalcaogpiaa
