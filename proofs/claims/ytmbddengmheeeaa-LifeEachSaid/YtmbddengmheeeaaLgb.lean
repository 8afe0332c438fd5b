/-
  Later votes stand; half against are enough (mathematics).
-/
import Derived.Test.YtmbddengmheeeaaLga
namespace Go.Proofs.Ytmbddengmheeeaa
open Go.RowKit
set_option linter.unusedVariables false
set_option linter.unusedSimpArgs false

def withV (k : Kn) (l : List (Int × Bool)) : Kn := { k with vs := l }
/-- the votes of one replica alone. -/
def loneV (n : Nat) (v : Int × Bool) : List (Int × Bool) := List.replicate n (0, false) ++ [v]
def votedK (k : Kn) (n : Nat) (v : Int × Bool) : Kn := joinK k (withV k (loneV n v))
theorem loneV_len (n : Nat) (v : Int × Bool) : (loneV n v).length = n + 1 := by simp [loneV]
theorem okR_withV {k : Kn} (h : okR k = true) {l : List (Int × Bool)} (hl : votesOk l = true) : okR (withV k l) = true := by
  have e : okR (withV k l) = (decide (k.g > 0) && (decide (k.g ≤ 1099511627776) && (decide (k.l ≥ 1) && (decide (k.l ≤ 3) && (okSp k.sp && (votesOk l && (decide (k.dn ≥ 0) && decide (k.dn ≤ 65535)))))))) := rfl
  rw [e]
  unfold okR at h
  simp only [Bool.and_eq_true, decide_eq_true_eq] at h ⊢
  obtain ⟨a1, a2, a3, a4, a5, a6, a7, a8⟩ := h
  exact ⟨a1, a2, a3, a4, a5, hl, a7, a8⟩
theorem okR_dn {k : Kn} (h : okR k = true) : orI k.dn k.dn = k.dn := by
  unfold okR at h
  simp only [Bool.and_eq_true, decide_eq_true_eq] at h
  obtain ⟨a1, a2, a3, a4, a5, a6, a7, a8⟩ := h
  obtain ⟨m, hm⟩ : ∃ m : Nat, k.dn = (m : Int) := ⟨k.dn.toNat, by omega⟩
  rw [hm, orI_nat (by omega) (by omega), Nat.or_self]
theorem join_withV {x : Kn} {a b : List (Int × Bool)} (hx : okR x = true) (hg : x.g ≠ 0) (ha : votesOk a = true) (hb : votesOk b = true) :
    joinK (withV x a) (withV x b) = withV x (joinVo a b) ∧ joinE (withV x a) (withV x b) = 0 := by
  have h1 : okK (withV x a) = true := okK_of (okR_withV hx ha) hg
  have h2 : okK (withV x b) = true := okK_of (okR_withV hx hb) hg
  unfold joinK joinE
  have hc : okK (withV x a) = true ∧ okK (withV x b) = true := ⟨h1, h2⟩
  refine ⟨?_, if_pos hc⟩
  rw [if_pos hc, if_pos (show (withV x a).g = (withV x b).g from rfl)]
  unfold joinKn
  show (⟨x.g, max x.l x.l, joinSp x.sp x.sp, joinVo a b, orI x.dn x.dn⟩ : Kn) = _
  rw [joinSp_same, okR_dn hx, Int.max_self]
  rfl
theorem voteAt_append {A : List (Int × Bool)} {p : Int × Bool} {j : Nat} : voteAt (A ++ [p]) j = if j = A.length then p else voteAt A j := by
  unfold voteAt
  rw [List.getD_eq_getElem?_getD, List.getD_eq_getElem?_getD]
  by_cases h : j < A.length
  · rw [List.getElem?_append_left h, if_neg (by omega)]
  · rw [List.getElem?_append_right (by omega)]
    by_cases e : j = A.length
    · subst e; simp
    · rw [if_neg e]
      have : j - A.length ≥ 1 := by omega
      rw [List.getElem?_eq_none (by simp; omega), List.getElem?_eq_none (by omega)]
theorem voteAt_rep (n j : Nat) : voteAt (List.replicate n (0, false)) j = (0, false) := by
  unfold voteAt
  rw [List.getD_eq_getElem?_getD, List.getElem?_replicate]
  split <;> rfl
theorem voteAt_get {A : List (Int × Bool)} {j : Nat} (h : j < A.length) : voteAt A j = A[j] := by
  unfold voteAt
  rw [List.getD_eq_getElem?_getD, List.getElem?_eq_getElem h]; rfl
theorem voteAt_end {A : List (Int × Bool)} {j : Nat} (h : A.length ≤ j) : voteAt A j = (0, false) := by
  unfold voteAt
  rw [List.getD_eq_getElem?_getD, List.getElem?_eq_none h]; rfl
theorem joinVo_lone {A : List (Int × Bool)} {q : Int × Bool} (hA : ∀ a ∈ A, vjoin a (0, false) = a) : joinVo A (loneV A.length q) = A ++ [vjoin (0, false) q] := by
  apply List.ext_getElem
  · simp [joinVo, loneV]
  · intro i h1 h2
    simp only [joinVo, List.getElem_map, List.getElem_range, loneV]
    rw [voteAt_append, voteAt_rep, List.length_replicate]
    have h2' : i < A.length + 1 := by simpa using h2
    by_cases e : i = A.length
    · subst e
      rw [if_pos rfl, voteAt_end (Nat.le_refl _)]
      simp
    · rw [if_neg e, voteAt_get (show i < A.length by omega), hA _ (List.getElem_mem _), List.getElem_append_left (by omega)]
theorem joinVo_snoc {A : List (Int × Bool)} {p q : Int × Bool} (hA : ∀ a ∈ A, vjoin a (0, false) = a) : joinVo (A ++ [p]) (loneV A.length q) = A ++ [vjoin p q] := by
  apply List.ext_getElem
  · simp [joinVo, loneV]
  · intro i h1 h2
    simp only [joinVo, List.getElem_map, List.getElem_range, loneV]
    rw [voteAt_append, voteAt_append, voteAt_rep, List.length_replicate]
    have h2' : i < A.length + 1 := by simpa using h2
    by_cases e : i = A.length
    · subst e
      rw [if_pos rfl, if_pos rfl]
      simp
    · rw [if_neg e, if_neg e, voteAt_get (show i < A.length by omega), hA _ (List.getElem_mem _), List.getElem_append_left (by omega)]
theorem okVo_cast {s : Int} {o : Bool} (h1 : 1 ≤ s) (h2 : s ≤ 1099511627776) : okVo (s, o) = true := by
  unfold okVo castB
  rw [decide_eq_true ⟨by show 0 ≤ s; omega, h2⟩]
  have : (s != 0) = true := by simp; omega
  simp [this]
theorem votesOk_snoc {A : List (Int × Bool)} {s : Int} {o : Bool} (hA : ∀ a ∈ A, okVo a = true) (hl : A.length + 1 ≤ 16) (h1 : 1 ≤ s) (h2 : s ≤ 1099511627776) : votesOk (A ++ [(s, o)]) = true := by
  unfold votesOk
  rw [List.length_append, List.length_singleton, decide_eq_true hl, List.getD_eq_getElem?_getD, show A.length + 1 - 1 = A.length from rfl, List.getElem?_append_right (Nat.le_refl _)]
  have hc : castB (s, o) = true := by unfold castB; simp; omega
  simp only [Nat.sub_self, List.getElem?_cons_zero, Option.getD_some, hc, Bool.or_true, Bool.true_and, List.all_append, List.all_cons, List.all_nil, Bool.and_true, Bool.and_eq_true, List.all_eq_true]
  exact ⟨hA, okVo_cast h1 h2⟩
theorem okVo_no : okVo (0, false) = true := by decide
theorem votesOk_lone {n : Nat} {s : Int} {o : Bool} (hn : n < 16) (h1 : 1 ≤ s) (h2 : s ≤ 1099511627776) : votesOk (loneV n (s, o)) = true :=
  votesOk_snoc (fun a ha => by rw [List.eq_of_mem_replicate ha]; exact okVo_no) (by simp; omega) h1 h2
theorem votesOk_nil : votesOk [] = true := rfl
theorem votesOk_rep {n : Nat} {s : Int} {o : Bool} (hn : n ≤ 16) (h1 : 1 ≤ s) (h2 : s ≤ 1099511627776) : votesOk (List.replicate n (s, o)) = true := by
  cases n with
  | zero => rfl
  | succ n =>
    rw [List.replicate_succ']
    exact votesOk_snoc (fun a ha => by rw [List.eq_of_mem_replicate ha]; exact okVo_cast h1 h2) (by simp; omega) h1 h2
section
variable {x : Kn} {a b : Int} {i : Nat}
/-- votes of i replicas, each against it at b. -/
def repV (x : Kn) (i : Nat) (b : Int) : Kn := withV x (List.replicate i (b, false))
def repZ (x : Kn) (i : Nat) (a b : Int) : Kn := withV x (List.replicate i (b, false) ++ [(a, true)])
theorem vj_b0 (hb : 1 ≤ b) : vjoin (b, false) (0, false) = (b, false) := by
  unfold vjoin vahead
  rw [if_neg (show ¬ (b, false).1 = ((0 : Int), false).1 by show ¬ b = 0; omega), decide_eq_false (show ¬ (b, false).1 < ((0 : Int), false).1 by show ¬ b < 0; omega)]
  rfl
theorem vj_0 {o : Bool} (hb : 1 ≤ b) : vjoin (0, false) (b, o) = (b, o) := by
  unfold vjoin vahead
  rw [if_neg (show ¬ ((0 : Int), false).1 = (b, o).1 by show ¬ 0 = b; omega), decide_eq_true (show ((0 : Int), false).1 < (b, o).1 by show 0 < b; omega)]
  rfl
theorem vj_ba (h : a < b) : vjoin (b, false) (a, true) = (b, false) := by
  unfold vjoin vahead
  rw [if_neg (show ¬ (b, false).1 = (a, true).1 by show ¬ b = a; omega), decide_eq_false (show ¬ (b, false).1 < (a, true).1 by show ¬ b < a; omega)]
  rfl
theorem vj_ab (h : a < b) : vjoin (a, true) (b, false) = (b, false) := by
  unfold vjoin vahead
  rw [if_neg (show ¬ (a, true).1 = (b, false).1 by show ¬ a = b; omega), decide_eq_true (show (a, true).1 < (b, false).1 by show a < b; omega)]
  rfl
theorem rep_b0 (hb : 1 ≤ b) : ∀ v ∈ List.replicate i (b, false), vjoin v (0, false) = v := fun v hv => by rw [List.eq_of_mem_replicate hv]; exact vj_b0 hb
theorem okR_repV (hx : okR x = true) (hi : i ≤ 16) (h1 : 1 ≤ b) (h2 : b ≤ 1099511627776) : okR (repV x i b) = true := okR_withV hx (votesOk_rep hi h1 h2)
theorem okR_repZ (hx : okR x = true) (hi : i < 16) (h0 : 1 ≤ a) (h : a < b) (h2 : b ≤ 1099511627776) : okR (repZ x i a b) = true :=
  okR_withV hx (votesOk_snoc (fun v hv => by rw [List.eq_of_mem_replicate hv]; exact okVo_cast (by omega) h2) (by simp; omega) h0 (by omega))
theorem withV_withV (l m : List (Int × Bool)) : withV (withV x l) m = withV x m := rfl
theorem voted_b (hx : okR x = true) (hg : x.g ≠ 0) (hi : i < 16) (h1 : 1 ≤ b) (h2 : b ≤ 1099511627776) :
    votedK (repV x i b) i (b, false) = repV x (i + 1) b ∧ joinE (repV x i b) (withV (repV x i b) (loneV i (b, false))) = 0 := by
  have := join_withV hx hg (votesOk_rep (n := i) (o := false) (by omega) h1 h2) (votesOk_lone (n := i) (o := false) hi h1 h2)
  unfold votedK repV
  rw [withV_withV]
  refine ⟨?_, this.2⟩
  rw [this.1]
  have e := joinVo_lone (q := (b, false)) (rep_b0 (i := i) h1)
  rw [List.length_replicate, vj_0 h1] at e
  rw [e, List.replicate_succ']
theorem voted_ba (hx : okR x = true) (hg : x.g ≠ 0) (hi : i < 16) (h0 : 1 ≤ a) (h : a < b) (h2 : b ≤ 1099511627776) :
    votedK (repV x (i + 1) b) i (a, true) = repV x (i + 1) b ∧ joinE (repV x (i + 1) b) (withV (repV x (i + 1) b) (loneV i (a, true))) = 0 := by
  have := join_withV hx hg (votesOk_rep (n := i + 1) (s := b) (o := false) (by omega) (by omega) h2) (votesOk_lone (n := i) (o := true) hi h0 (by omega))
  unfold votedK repV
  rw [withV_withV]
  refine ⟨?_, this.2⟩
  rw [this.1]
  have e := joinVo_snoc (p := (b, false)) (q := (a, true)) (rep_b0 (i := i) (b := b) (by omega))
  rw [List.length_replicate, vj_ba h, ← List.replicate_succ'] at e
  rw [e]
theorem voted_a (hx : okR x = true) (hg : x.g ≠ 0) (hi : i < 16) (h0 : 1 ≤ a) (h : a < b) (h2 : b ≤ 1099511627776) :
    votedK (repV x i b) i (a, true) = repZ x i a b ∧ joinE (repV x i b) (withV (repV x i b) (loneV i (a, true))) = 0 := by
  have := join_withV hx hg (votesOk_rep (n := i) (s := b) (o := false) (by omega) (by omega) h2) (votesOk_lone (n := i) (o := true) hi h0 (by omega))
  unfold votedK repV
  rw [withV_withV]
  refine ⟨?_, this.2⟩
  rw [this.1]
  have e := joinVo_lone (q := (a, true)) (rep_b0 (i := i) (b := b) (by omega))
  rw [List.length_replicate, vj_0 h0] at e
  rw [e]; rfl
theorem voted_ab (hx : okR x = true) (hg : x.g ≠ 0) (hi : i < 16) (h0 : 1 ≤ a) (h : a < b) (h2 : b ≤ 1099511627776) :
    votedK (repZ x i a b) i (b, false) = repV x (i + 1) b ∧ joinE (repZ x i a b) (withV (repZ x i a b) (loneV i (b, false))) = 0 := by
  have h3 : votesOk (List.replicate i (b, false) ++ [(a, true)]) = true := votesOk_snoc (fun v hv => by rw [List.eq_of_mem_replicate hv]; exact okVo_cast (by omega) h2) (by simp; omega) h0 (by omega)
  have := join_withV hx hg h3 (votesOk_lone (n := i) (o := false) hi (by omega) h2)
  unfold votedK repZ repV
  rw [withV_withV]
  refine ⟨?_, this.2⟩
  rw [this.1]
  have e := joinVo_snoc (p := (a, true)) (q := (b, false)) (rep_b0 (i := i) (b := b) (by omega))
  rw [List.length_replicate, vj_ab h, ← List.replicate_succ'] at e
  rw [e]
theorem well_rep (hx : okR x = true) (hg : x.g > 0) {n : Nat} (hn : n ≤ 16) (hn1 : 1 ≤ n) (hi : i ≤ n) (h1 : 1 ≤ b) (h2 : b ≤ 1099511627776) : wellK (repV x i b) (n : Int) = decide (2 * (i : Int) < (n : Int)) := by
  unfold wellK knTo
  rw [okK_of (okR_repV hx (by omega) h1 h2) (show (repV x i b).g ≠ 0 by show x.g ≠ 0; omega), decide_eq_true (show (n : Int) ≥ 1 by omega), decide_eq_true (show (n : Int) ≤ 16 by omega), decide_eq_true (show (repV x i b).g > 0 from hg)]
  simp only [Bool.true_and, Int.toNat_natCast]
  have e : unw ((repV x i b).vs.take n) = i := by
    show unw ((List.replicate i (b, false)).take n) = i
    rw [List.take_of_length_le (by simp; omega)]
    unfold unw
    rw [List.countP_replicate, if_pos]
    unfold unwB castB
    simp; omega
  simp only [e]
end
end Go.Proofs.Ytmbddengmheeeaa
