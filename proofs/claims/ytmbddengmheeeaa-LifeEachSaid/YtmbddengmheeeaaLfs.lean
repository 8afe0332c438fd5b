/-
  What is known together of votes and replicas (mathematics).
-/
import Derived.Test.YtmbddengmheeeaaLfr
namespace Go.Proofs.Ytmbddengmheeeaa
open Go.RowKit
set_option linter.unusedVariables false
set_option linter.unusedSimpArgs false

theorem voteAt_join (l m : List (Int × Bool)) (i : Nat) : voteAt (joinVo l m) i = vjoin (voteAt l i) (voteAt m i) := by
  by_cases h : i < max l.length m.length
  · have hl : i < (joinVo l m).length := by rw [joinVo_len]; exact h
    unfold voteAt at *
    rw [List.getD_eq_getElem?_getD, List.getElem?_eq_getElem hl]
    simp [joinVo, voteAt]
  · unfold voteAt
    rw [List.getD_eq_getElem?_getD, List.getElem?_eq_none (by rw [joinVo_len]; omega), List.getD_eq_getElem?_getD, List.getElem?_eq_none (by omega), List.getD_eq_getElem?_getD, List.getElem?_eq_none (by omega)]
    rfl
theorem list_ext_votes {l m : List (Int × Bool)} (h1 : l.length = m.length) (h2 : ∀ i, i < l.length → voteAt l i = voteAt m i) : l = m := by
  refine List.ext_getElem h1 fun i hi hj => ?_
  have := h2 i hi
  unfold voteAt at this
  rw [List.getD_eq_getElem?_getD, List.getElem?_eq_getElem hi, List.getD_eq_getElem?_getD, List.getElem?_eq_getElem hj] at this
  exact this
theorem joinVo_comm (l m : List (Int × Bool)) : joinVo l m = joinVo m l := by
  refine list_ext_votes (by rw [joinVo_len, joinVo_len]; omega) fun i _ => ?_
  rw [voteAt_join, voteAt_join, vjoin_mx, vjoin_mx, mxO_comm sto_vote ⟨trivial, trivial⟩ ⟨trivial, trivial⟩]
theorem joinVo_assoc (l m n : List (Int × Bool)) : joinVo (joinVo l m) n = joinVo l (joinVo m n) := by
  refine list_ext_votes (by simp only [joinVo_len]; omega) fun i _ => ?_
  rw [voteAt_join, voteAt_join, voteAt_join, voteAt_join]
  simp only [vjoin_mx]
  rw [mxO_assoc sto_vote ⟨trivial, trivial⟩ ⟨trivial, trivial⟩ ⟨trivial, trivial⟩]
theorem joinVo_self (l : List (Int × Bool)) : joinVo l l = l := by
  refine list_ext_votes (by rw [joinVo_len]; omega) fun i _ => ?_
  rw [voteAt_join, vjoin_mx, mxO_self sto_vote ⟨trivial, trivial⟩]
theorem joinVo_top (l m : List (Int × Bool)) : joinVo l (joinVo l m) = joinVo l m := by
  rw [← joinVo_assoc, joinVo_self]
/-- one that was cast stays. -/
theorem cast_join {a b : Int × Bool} (ha : okVo a = true) (hb : okVo b = true) (h : castB a = true ∨ castB b = true) : castB (vjoin a b) = true := by
  obtain ⟨a1, a2⟩ := a
  obtain ⟨b1, b2⟩ := b
  unfold okVo castB vjoin vahead at *
  simp only [Bool.and_eq_true, decide_eq_true_eq, bne_iff_ne, ne_eq] at *
  by_cases e : a1 = b1
  · subst e
    rw [if_pos rfl]
    split <;> (rcases h with h | h <;> exact h)
  · rw [if_neg e]
    split <;> simp_all <;> omega
theorem ok_join {a b : Int × Bool} (ha : okVo a = true) (hb : okVo b = true) : okVo (vjoin a b) = true := by
  unfold vjoin; split <;> assumption
theorem okVo_none : okVo (0, false) = true := by decide
theorem okVo_at {l : List (Int × Bool)} (h : l.all okVo = true) (i : Nat) : okVo (voteAt l i) = true := by
  unfold voteAt
  rw [List.getD_eq_getElem?_getD]
  rcases Nat.lt_or_ge i l.length with hi | hi
  · rw [List.getElem?_eq_getElem hi]
    exact List.all_eq_true.1 h _ (List.getElem_mem hi)
  · rw [List.getElem?_eq_none hi]; exact okVo_none
theorem votesOk_join {l m : List (Int × Bool)} (hl : votesOk l = true) (hm : votesOk m = true) : votesOk (joinVo l m) = true := by
  unfold votesOk at *
  simp only [Bool.and_eq_true, decide_eq_true_eq, Bool.or_eq_true] at *
  obtain ⟨⟨l1, l2⟩, l3⟩ := hl
  obtain ⟨⟨m1, m2⟩, m3⟩ := hm
  have hlen := joinVo_len l m
  refine ⟨⟨by omega, ?_⟩, ?_⟩
  · by_cases h0 : (joinVo l m).length = 0
    · exact .inl h0
    · refine .inr ?_
      have e : (joinVo l m).getD ((joinVo l m).length - 1) (0, false) = voteAt (joinVo l m) ((joinVo l m).length - 1) := rfl
      rw [e, voteAt_join, hlen]
      refine cast_join (okVo_at l3 _) (okVo_at m3 _) ?_
      rcases Nat.le_total m.length l.length with h | h
      · left
        rcases l2 with l2 | l2
        · omega
        · rw [show max l.length m.length = l.length by omega]; exact l2
      · right
        rcases m2 with m2 | m2
        · omega
        · rw [show max l.length m.length = m.length by omega]; exact m2
  · rw [List.all_eq_true]
    intro x hx
    obtain ⟨i, hi, rfl⟩ := List.mem_iff_getElem.1 hx
    have e : (joinVo l m)[i] = voteAt (joinVo l m) i := by
      unfold voteAt
      rw [List.getD_eq_getElem?_getD, List.getElem?_eq_getElem hi]; rfl
    rw [e, voteAt_join]
    exact ok_join (okVo_at l3 _) (okVo_at m3 _)
end Go.Proofs.Ytmbddengmheeeaa
