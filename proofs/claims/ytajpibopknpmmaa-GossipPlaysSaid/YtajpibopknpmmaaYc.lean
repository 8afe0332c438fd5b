/-
  The mathematics of the document's queue: ranks, the order, what is told, what is left; that it is the same as the program's.
-/
import Derived.Test.YtajpibopknpmmaaYb
import Derived.Test.YtajpibopknpmmaaGp
namespace Go.Proofs.Ytajpibopknpmmaa
set_option linter.unusedVariables false
set_option linter.unusedSimpArgs false

/-- which of two is told first. -/
def befQ (a b : Int × Nw) : Bool := decide (b.2.2 < a.2.2) || (decide (a.2.2 = b.2.2) && decide (a.1 < b.1))
theorem befQ_iff (a b : Int × Nw) : befQ a b = true ↔ b.2.2 < a.2.2 ∨ (a.2.2 = b.2.2 ∧ a.1 < b.1) := by simp [befQ]
def rkQ (R : List (Int × Nw)) (b : Int × Nw) : Nat := R.countP (fun a => befQ a b)
def ordD (R : List (Int × Nw)) : List (Int × Nw) := R.mergeSort (fun x y => !befQ y x)
theorem ordD_perm (R : List (Int × Nw)) : (ordD R).Perm R := List.mergeSort_perm _ _
theorem ordD_len (R : List (Int × Nw)) : (ordD R).length = R.length := (ordD_perm R).length_eq
theorem ordD_not (R : List (Int × Nw)) : (ordD R).Pairwise (fun x y => ¬ befQ y x = true) := by
  have := List.pairwise_mergeSort (le := fun x y => !befQ y x) (fun a b c h1 h2 => by
    simp only [Bool.not_eq_true', Bool.eq_false_iff, ne_eq, befQ_iff] at *; omega) (fun a b => by
    simp only [Bool.or_eq_true, Bool.not_eq_true', Bool.eq_false_iff, ne_eq, befQ_iff]; omega) R
  exact this.imp fun h => by simpa using h
theorem ordD_nodup {R : List (Int × Nw)} (h : OkQ R) : ((ordD R).map (·.1)).Nodup := ((ordD_perm R).map _).nodup_iff.2 h.nodup
theorem ordD_pair {R : List (Int × Nw)} (h : OkQ R) : (ordD R).Pairwise (fun x y => befQ x y = true) := by
  have h1 : (ordD R).Pairwise (fun x y => x.1 ≠ y.1) := List.pairwise_map.1 (ordD_nodup h)
  refine ((ordD_not R).and h1).imp ?_
  rintro x y ⟨h2, h3⟩
  rw [befQ_iff] at h2 ⊢
  omega
theorem count_sorted : ∀ {S : List (Int × Nw)}, S.Pairwise (fun x y => befQ x y = true) → ∀ j (hj : j < S.length), S.countP (fun a => befQ a S[j]) = j
  | [], _, j, hj => absurd hj (by simp)
  | x :: t, h, 0, hj => by
    rw [List.countP_eq_zero]
    intro a ha
    simp only [List.getElem_cons_zero]
    rcases List.mem_cons.1 ha with rfl | ha
    · rw [befQ_iff]; omega
    · have := (List.pairwise_cons.1 h).1 a ha
      rw [befQ_iff] at this ⊢; omega
  | x :: t, h, j + 1, hj => by
    have hj' : j < t.length := by simpa using hj
    have h1 := (List.pairwise_cons.1 h).1 t[j] (List.getElem_mem hj')
    simp only [List.getElem_cons_succ, List.countP_cons]
    rw [count_sorted (List.pairwise_cons.1 h).2 j hj', if_pos h1]
theorem rk_at {R : List (Int × Nw)} (h : OkQ R) (j : Nat) (hj : j < (ordD R).length) : rkQ R (ordD R)[j] = j := by
  unfold rkQ
  rw [← (ordD_perm R).countP_eq]
  exact count_sorted (ordD_pair h) j hj
/-- each stands where its rank says. -/
theorem rk_is {R : List (Int × Nw)} (h : OkQ R) (i : Nat) (hi : i < R.length) : ∃ hj : rkQ R R[i] < (ordD R).length, (ordD R)[rkQ R R[i]] = R[i] := by
  obtain ⟨j, hj, e⟩ := List.getElem_of_mem ((ordD_perm R).mem_iff.2 (List.getElem_mem hi))
  have := rk_at h j hj
  rw [e] at this
  exact ⟨by rw [this]; exact hj, by simp only [this]; exact e⟩
theorem rk_from {R : List (Int × Nw)} (h : OkQ R) (j : Nat) (hj : j < (ordD R).length) : ∃ (i : Nat) (hi : i < R.length), R[i] = (ordD R)[j] ∧ rkQ R R[i] = j := by
  obtain ⟨i, hi, e⟩ := List.getElem_of_mem ((ordD_perm R).mem_iff.1 (List.getElem_mem hj))
  exact ⟨i, hi, e, by rw [e]; exact rk_at h j hj⟩
theorem ordD_ok {R : List (Int × Nw)} (h : OkQ R) : OkQ (ordD R) := ⟨ordD_nodup h, fun p hp => h.each p ((ordD_perm R).mem_iff.1 hp)⟩

/-- what is told of some, within so much room, and what is left. -/
def pickD : List (Int × Nw) → Int → List (Int × List UInt8) × List (Int × Nw)
  | [], _ => ([], [])
  | p :: t, room =>
    if (p.2.1.length : Int) ≤ room then
      ((p.1, p.2.1) :: (pickD t (room - (p.2.1.length : Int))).1, if 1 < p.2.2 then (p.1, (p.2.1, p.2.2 - 1)) :: (pickD t (room - (p.2.1.length : Int))).2 else (pickD t (room - (p.2.1.length : Int))).2)
    else ((pickD t room).1, p :: (pickD t room).2)
theorem pickD_keys : ∀ (S : List (Int × Nw)) (room : Int), ((pickD S room).2.map (·.1)).Sublist (S.map (·.1))
  | [], _ => List.Sublist.refl _
  | p :: t, room => by
    unfold pickD
    split
    · dsimp only
      split
      · exact (pickD_keys t _).cons_cons _
      · exact (pickD_keys t _).trans (List.sublist_cons_self _ _)
    · exact (pickD_keys t _).cons_cons _
theorem pickD_ok : ∀ (S : List (Int × Nw)) (room : Int), OkQ S → OkQ (pickD S room).2 := by
  intro S room h
  refine ⟨(pickD_keys S room).nodup h.nodup, ?_⟩
  have he := h.each
  clear h
  induction S generalizing room with
  | nil => intro p hp; cases hp
  | cons p t ih =>
    intro q hq
    have h0 := he p List.mem_cons_self
    have ht := fun r => ih r (fun x hx => he x (List.mem_cons_of_mem _ hx))
    unfold pickD at hq
    split at hq
    · dsimp only at hq
      split at hq
      · rcases List.mem_cons.1 hq with rfl | hq
        · exact ⟨h0.1, h0.2.1, h0.2.2.1, by dsimp only; omega, by dsimp only; omega⟩
        · exact ht _ q hq
      · exact ht _ q hq
    · rcases List.mem_cons.1 hq with rfl | hq
      · exact h0
      · exact ht _ q hq
theorem lookQ_of_mem {L : List (Int × Nw)} (h : (L.map (·.1)).Nodup) {p : Int × Nw} (hp : p ∈ L) : lookQ p.1 L = some p.2 := by
  induction L with
  | nil => cases hp
  | cons q t ih =>
    simp only [List.map_cons, List.nodup_cons] at h
    unfold lookQ
    rcases List.mem_cons.1 hp with rfl | hp
    · rw [if_pos rfl]
    · rw [if_neg (fun e => h.1 (by rw [← e]; exact List.mem_map_of_mem hp)), ih h.2 hp]
/-- told in the same order, the same is told, and the same is left. -/
theorem pickQ_D : ∀ (S : List (Int × Nw)) (room : Int) (L : List (Int × Nw)), OkQ L → (S.map (·.1)).Nodup → (∀ p ∈ S, lookQ p.1 L = some p.2) →
    (pickQ (S.map (·.1)) room L).1 = (pickD S room).1 ∧ ∀ k, lookQ k (pickQ (S.map (·.1)) room L).2 = if k ∈ S.map (·.1) then lookQ k (pickD S room).2 else lookQ k L
  | [], _, L, _, _, _ => ⟨rfl, fun k => rfl⟩
  | p :: t, room, L, h, hn, hl => by
    simp only [List.map_cons, List.nodup_cons] at hn
    have hp := hl p List.mem_cons_self
    have hd : dataQ L p.1 = p.2.1 := by unfold dataQ; rw [hp]; rfl
    have hpk := (h.each _ (lookQ_mem hp)).2.2.2
    dsimp only at hpk
    unfold pickD
    simp only [List.map_cons, pickQ, hd]
    by_cases hr : (p.2.1.length : Int) ≤ room
    · rw [if_neg (by omega), if_pos hr]
      have hl2 : ∀ q ∈ t, lookQ q.1 (toldQ p.1 L) = some q.2 := fun q hq => by
        rw [look_toldQ h, if_neg (fun e => hn.1 (by rw [← e]; exact List.mem_map_of_mem hq)), hl q (List.mem_cons_of_mem _ hq)]
      obtain ⟨e1, e2⟩ := pickQ_D t (room - p.2.1.length) (toldQ p.1 L) (h.told p.1) hn.2 hl2
      refine ⟨by dsimp only; rw [e1], fun k => ?_⟩
      dsimp only
      rw [e2 k]
      have hno : p.1 ∉ (pickD t (room - p.2.1.length)).2.map (·.1) := fun hh => hn.1 ((pickD_keys t _).mem hh)
      by_cases hk : k = p.1
      · subst hk
        rw [if_neg hn.1, if_pos List.mem_cons_self, look_toldQ h, if_pos rfl, hp]
        by_cases h1 : p.2.2 = 1
        · rw [if_neg (by omega)]
          simp only [Option.bind_some, if_pos h1]
          exact (lookQ_none.2 hno).symm
        · rw [if_pos (by omega)]
          simp only [Option.bind_some, if_neg h1]
          unfold lookQ
          rw [if_pos rfl]
      · have hkk : (k ∈ p.1 :: t.map (·.1)) ↔ k ∈ t.map (·.1) := by simp [hk]
        simp only [hkk]
        have hdrop : lookQ k (if 1 < p.2.2 then (p.1, (p.2.1, p.2.2 - 1)) :: (pickD t (room - (p.2.1.length : Int))).2 else (pickD t (room - (p.2.1.length : Int))).2) = lookQ k (pickD t (room - (p.2.1.length : Int))).2 := by
          split
          · conv => lhs; unfold lookQ
            rw [if_neg hk]
          · rfl
        rw [hdrop]
        split
        · rfl
        · rw [look_toldQ h, if_neg hk]
    · rw [if_pos (by omega), if_neg hr]
      obtain ⟨e1, e2⟩ := pickQ_D t room L h hn.2 (fun q hq => hl q (List.mem_cons_of_mem _ hq))
      refine ⟨e1, fun k => ?_⟩
      dsimp only
      rw [e2 k]
      by_cases hk : k = p.1
      · subst hk
        rw [if_neg hn.1, if_pos List.mem_cons_self, hp]
        unfold lookQ
        rw [if_pos rfl]
      · have hkk : (k ∈ p.1 :: t.map (·.1)) ↔ k ∈ t.map (·.1) := by simp [hk]
        simp only [hkk]
        split
        · conv => rhs; unfold lookQ
          rw [if_neg hk]
        · rfl
/-- the program's queue and the document's hold the same. -/
structure AlikeQ (L R : List (Int × Nw)) : Prop where
  okL : OkQ L
  okR : OkQ R
  look : ∀ k, lookQ k L = lookQ k R
theorem AlikeQ.nil : AlikeQ [] [] := ⟨OkQ.nil, OkQ.nil, fun _ => rfl⟩
theorem AlikeQ.keys {L R : List (Int × Nw)} (h : AlikeQ L R) : (L.map (·.1)).Perm (R.map (·.1)) := by
  rw [List.perm_ext_iff_of_nodup h.okL.nodup h.okR.nodup]
  intro k
  rw [← hasQ_iff, ← hasQ_iff]; unfold hasQ; rw [h.look]
theorem AlikeQ.len {L R : List (Int × Nw)} (h : AlikeQ L R) : L.length = R.length := by
  have := h.keys.length_eq; simpa using this
theorem AlikeQ.left {L R : List (Int × Nw)} (h : AlikeQ L R) (k : Int) : leftQ L k = leftQ R k := by unfold leftQ; rw [h.look]
theorem AlikeQ.put {L R : List (Int × Nw)} (h : AlikeQ L R) (k : Int) (x : Nw) (hx : (-9223372036854775808 ≤ k ∧ k ≤ 9223372036854775807) ∧ 0 < x.1.length ∧ x.1.length ≤ 140737488355328 ∧ 1 ≤ x.2 ∧ x.2 ≤ 1000) : AlikeQ (putQ k x L) (putQ k x R) :=
  ⟨h.okL.put k x hx, h.okR.put k x hx, fun j => by rw [look_putQ, look_putQ, h.look]⟩
theorem AlikeQ.order {L R : List (Int × Nw)} (h : AlikeQ L R) : ordQ L (L.map (·.1)) = (ordD R).map (·.1) := by
  refine ordQ_is (((ordD_perm R).map _).trans h.keys.symm) ?_
  rw [List.pairwise_map]
  refine (ordD_pair h.okR).imp_of_mem ?_
  intro a b ha hb hab
  have ha' := lookQ_of_mem h.okR.nodup ((ordD_perm R).mem_iff.1 ha)
  have hb' := lookQ_of_mem h.okR.nodup ((ordD_perm R).mem_iff.1 hb)
  rw [cmpQ_neg]
  rw [befQ_iff] at hab
  unfold leftQ
  rw [h.look, h.look, ha', hb']
  simp only [Option.map_some, Option.getD_some]
  omega
theorem AlikeQ.pick {L R : List (Int × Nw)} (h : AlikeQ L R) (room : Int) :
    (pickQ (ordQ L (L.map (·.1))) room L).1 = (pickD (ordD R) room).1 ∧ AlikeQ (pickQ (ordQ L (L.map (·.1))) room L).2 (pickD (ordD R) room).2 := by
  rw [h.order]
  obtain ⟨e1, e2⟩ := pickQ_D (ordD R) room L h.okL (ordD_nodup h.okR) (fun p hp => by rw [h.look]; exact lookQ_of_mem h.okR.nodup ((ordD_perm R).mem_iff.1 hp))
  refine ⟨e1, OkQ.pick _ _ h.okL, pickD_ok _ _ (ordD_ok h.okR), fun k => ?_⟩
  rw [e2 k]
  split
  · rfl
  · next hk =>
    rw [lookQ_none.2 (fun hh => hk ((pickD_keys _ _).mem hh)), h.look]
    exact lookQ_none.2 (fun hh => hk (((ordD_perm R).map _).mem_iff.2 hh))
end Go.Proofs.Ytajpibopknpmmaa
