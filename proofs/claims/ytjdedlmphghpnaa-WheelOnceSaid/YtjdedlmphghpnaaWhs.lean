/-
  What is due up to a time: from what is due soon, tick by tick, and from what is due late. Mathematics alone.
-/
import Derived.Test.YtjdedlmphghpnaaWhr
namespace Go.Proofs.Ytjdedlmphghpnaa
open Go.RowKit
set_option linter.unusedVariables false

theorem ltD_le {a b : Int × Int} (h : ltD a b) : a.2 ≤ b.2 := by unfold ltD at h; omega
theorem cut_take (to : Int) : ∀ {D : List (Int × Int)}, D.Pairwise ltD → D.take (cutN to D) = D.filter (fun q => decide (q.2 ≤ to)) ∧ D.drop (cutN to D) = D.filter (fun q => decide (to < q.2))
  | [], _ => by simp [cutN]
  | q :: t, h => by
    rw [List.pairwise_cons] at h
    obtain ⟨h1, h2⟩ := cut_take to h.2
    unfold cutN
    by_cases e : q.2 ≤ to
    · rw [if_pos e, List.take_succ_cons, List.drop_succ_cons, h1, h2, List.filter_cons_of_pos (by simpa using e), List.filter_cons_of_neg (by simp; omega)]
      exact ⟨rfl, rfl⟩
    · rw [if_neg e, List.take_zero, List.drop_zero, List.filter_cons_of_neg (by simpa using e), List.filter_cons_of_pos (by simp; omega)]
      refine ⟨?_, ?_⟩
      · symm
        rw [List.filter_eq_nil_iff]
        intro r hr
        have := ltD_le (h.1 r hr)
        simp; omega
      · congr 1
        symm
        rw [List.filter_eq_self]
        intro r hr
        have := ltD_le (h.1 r hr)
        simp; omega
/-- what is due up to a later time: up to a time, and then. -/
theorem filter_split {D : List (Int × Int)} (h : D.Pairwise ltD) {a b : Int} (hab : a ≤ b) : D.filter (fun q => decide (q.2 ≤ b)) = D.filter (fun q => decide (q.2 ≤ a)) ++ D.filter (fun q => decide (a < q.2) && decide (q.2 ≤ b)) := by
  induction D with
  | nil => rfl
  | cons q t ih =>
    rw [List.pairwise_cons] at h
    have ih := ih h.2
    by_cases e : q.2 ≤ a
    · rw [List.filter_cons_of_pos (by simp; omega), List.filter_cons_of_pos (by simpa using e), List.filter_cons_of_neg (by simp; omega), ih, List.cons_append]
    · have hn : t.filter (fun q => decide (q.2 ≤ a)) = [] := by
        rw [List.filter_eq_nil_iff]
        intro r hr
        have := ltD_le (h.1 r hr)
        simp; omega
      rw [hn, List.nil_append] at ih
      rw [List.filter_cons_of_neg (a := q) (p := fun q => decide (q.2 ≤ a)) (by simpa using e), hn, List.nil_append]
      by_cases e2 : q.2 ≤ b
      · rw [List.filter_cons_of_pos (by simpa using e2), List.filter_cons_of_pos (by simp; omega), ih]
      · rw [List.filter_cons_of_neg (by simpa using e2), List.filter_cons_of_neg (by simp; omega), ih]
theorem soon_tick {D : List (Int × Int)} {f lim : Int} (hlow : ∀ q ∈ D, f < q.2) (hl : lim = f + 64) {k : Nat} (hk : k < 64) :
    (soonL D lim (resN f k)).map (fun id => (id, f + k + 1)) = D.filter (fun q => decide (f + k < q.2) && decide (q.2 ≤ f + k + 1)) := by
  unfold soonL
  rw [List.map_map]
  have e1 : D.filter (fun q => decide (q.2 ≤ lim) && decide (q.2 % 64 = (resN f k : Int))) = D.filter (fun q => decide (f + k < q.2) && decide (q.2 ≤ f + k + 1)) := by
    refine List.filter_congr fun q hq => ?_
    have h1 := hlow q hq
    have h2 := resN_eq f k
    rw [Bool.eq_iff_iff]
    simp only [Bool.and_eq_true, decide_eq_true_eq]
    omega
  rw [e1]
  have : ∀ q ∈ D.filter (fun q => decide (f + k < q.2) && decide (q.2 ≤ f + k + 1)), ((fun id => (id, f + (k : Int) + 1)) ∘ Prod.fst) q = q := by
    intro q hq
    rw [List.mem_filter] at hq
    have h2 := hq.2
    simp only [Bool.and_eq_true, decide_eq_true_eq] at h2
    exact Prod.ext rfl (by show f + (k : Int) + 1 = q.2; omega)
  rw [List.map_congr_left this, List.map_id'']
  exact fun _ => rfl
theorem turn_soon {D : List (Int × Int)} {f lim : Int} (h : D.Pairwise ltD) (hlow : ∀ q ∈ D, f < q.2) (hl : lim = f + 64) : ∀ {k : Nat}, k ≤ 64 → turnLw (soonL D lim) f k = D.filter (fun q => decide (q.2 ≤ f + k))
  | 0, _ => by
    unfold turnLw
    symm
    rw [List.filter_eq_nil_iff]
    intro q hq
    have := hlow q hq
    simp; omega
  | k + 1, hk => by
    unfold turnLw
    rw [turn_soon h hlow hl (by omega), soon_tick hlow hl (by omega), show f + ((k + 1 : Nat) : Int) = f + k + 1 by omega, filter_split h (a := f + k) (b := f + k + 1) (by omega)]
/-- all that is due up to a time, both parts. -/
theorem advance_all {D : List (Int × Int)} {f to : Int} {m : Nat} (h : D.Pairwise ltD) (hlow : ∀ q ∈ D, f < q.2) (hto : f ≤ to) (hm : (to ≤ f + 64 ∧ (m : Int) = to - f) ∨ (f + 64 ≤ to ∧ m = 64)) :
    turnLw (soonL D (f + 64)) f m ++ (lateL D (f + 64)).take (cutN to (lateL D (f + 64))) = D.take (cutN to D) := by
  have hl : (lateL D (f + 64)).Pairwise ltD := h.filter _
  rw [turn_soon h hlow rfl (by omega), (cut_take to hl).1, (cut_take to h).1]
  unfold lateL
  rw [List.filter_filter]
  rcases hm with ⟨h1, h2⟩ | ⟨h1, h2⟩
  · rw [show f + (m : Int) = to by omega]
    have : D.filter (fun a => decide (a.2 ≤ to) && decide (f + 64 < a.2)) = [] := by
      rw [List.filter_eq_nil_iff]
      intro q hq
      simp; omega
    rw [this, List.append_nil]
  · rw [h2, filter_split h h1]
    congr 1
    refine List.filter_congr fun q _ => ?_
    rw [Bool.and_comm]
theorem late_rest {D : List (Int × Int)} {f to : Int} (h : D.Pairwise ltD) : (lateL D (f + 64)).drop (cutN to (lateL D (f + 64))) = lateL (D.drop (cutN to D)) (f + 64) := by
  have hl : (lateL D (f + 64)).Pairwise ltD := h.filter _
  rw [(cut_take to hl).2, (cut_take to h).2]
  unfold lateL
  rw [List.filter_filter, List.filter_filter]
  refine List.filter_congr fun q _ => ?_
  rw [Bool.and_comm]
theorem mem_drop_cut {D : List (Int × Int)} {to : Int} (h : D.Pairwise ltD) {q : Int × Int} : q ∈ D.drop (cutN to D) ↔ q ∈ D ∧ to < q.2 := by
  rw [(cut_take to h).2, List.mem_filter]; simp
/-- what is left of what is due soon. -/
theorem soon_rest {D : List (Int × Int)} {f to : Int} {m r : Nat} (h : D.Pairwise ltD) (hlow : ∀ q ∈ D, f < q.2) (hto : f ≤ to) (hm : (to ≤ f + 64 ∧ (m : Int) = to - f) ∨ (f + 64 ≤ to ∧ m = 64)) (hr : r < 64) :
    soonL (D.drop (cutN to D)) (f + 64) r = if ∃ i, i < m ∧ resN f i = r then [] else soonL D (f + 64) r := by
  rw [(cut_take to h).2]
  unfold soonL
  rw [List.filter_filter]
  by_cases e : ∃ i, i < m ∧ resN f i = r
  · rw [if_pos e]
    obtain ⟨i, hi, hir⟩ := e
    rw [List.map_eq_nil_iff, List.filter_eq_nil_iff]
    intro q hq
    have h1 := hlow q hq
    have h2 := resN_eq f i
    rw [hir] at h2
    simp only [Bool.and_eq_true, decide_eq_true_eq, not_and]
    omega
  · rw [if_neg e]
    congr 1
    refine List.filter_congr fun q hq => ?_
    have h1 := hlow q hq
    rw [Bool.eq_iff_iff]
    simp only [Bool.and_eq_true, decide_eq_true_eq]
    constructor
    · rintro ⟨⟨h2, h3⟩, h4⟩; exact ⟨h2, h3⟩
    · rintro ⟨h2, h3⟩
      refine ⟨⟨h2, h3⟩, ?_⟩
      refine Decidable.byContradiction fun hn => e ⟨(q.2 - f - 1).toNat, by omega, ?_⟩
      unfold resN
      omega
/-- the rest becomes soon, one by one. -/
theorem insL_end {α : Type} {lt : α → α → Prop} [DecidableRel lt] {x : α} : ∀ {l : List α}, (∀ y ∈ l, lt y x) → insL lt x l = l ++ [x]
  | [], _ => rfl
  | y :: t, h => by
    rw [insL_cons, if_pos (h y (by simp)), insL_end (fun z hz => h z (by simp [hz]))]; rfl
/-- what is due soon of a list, in the list's order. -/
def rowsD (D : List (Int × Int)) (r : Nat) : List Int := (D.filter (fun q => decide (q.2 % 64 = (r : Int)))).map Prod.fst
theorem rowsD_soon (D : List (Int × Int)) (lim : Int) (r : Nat) : soonL D lim r = rowsD (D.filter (fun q => decide (q.2 ≤ lim))) r := by
  unfold soonL rowsD
  rw [List.filter_filter]
  congr 1
  refine List.filter_congr fun q _ => ?_
  rw [Bool.and_comm]
theorem rowsD_add {E : List (Int × Int)} {q : Int × Int} {to : Int} (h : (E ++ [q]).Pairwise ltD) (hlow : ∀ y ∈ E ++ [q], to < y.2 ∧ y.2 ≤ to + 64) (r : Nat) :
    rowsD (E ++ [q]) r = if q.2 % 64 = (r : Int) then insL ltZ q.1 (rowsD E r) else rowsD E r := by
  unfold rowsD
  rw [List.filter_append]
  by_cases e : q.2 % 64 = (r : Int)
  · rw [if_pos e, List.filter_cons_of_pos (by simpa using e), List.filter_nil, List.map_append, List.map_cons, List.map_nil, insL_end]
    intro y hy
    obtain ⟨z, hz, rfl⟩ := List.mem_map.1 hy
    rw [List.mem_filter] at hz
    have h2 := hz.2
    simp only [decide_eq_true_eq] at h2
    rw [List.pairwise_append] at h
    have h3 := h.2.2 z hz.1 q (by simp)
    have h4 := hlow z (by simp [hz.1])
    have h5 := hlow q (by simp)
    unfold ltD at h3
    unfold ltZ
    omega
  · rw [if_neg e, List.filter_cons_of_neg (by simpa using e), List.filter_nil, List.append_nil]
theorem drop_cut_ok {D : List (Int × Int)} {f to : Int} (h : OkD f D) (hto : f ≤ to ∧ to ≤ 1099511627776) : OkD to (D.drop (cutN to D)) :=
  ⟨h.rises.sublist (List.drop_sublist _ _), (List.Sublist.map _ (List.drop_sublist _ _)).nodup h.ids, fun q hq => ⟨((mem_drop_cut h.rises).1 hq).2, (h.low q ((mem_drop_cut h.rises).1 hq).1).2⟩, by rw [List.length_drop]; have := h.len; omega, by have := h.clock; omega⟩
/-- the first of what is due soon is the first of all. -/
theorem first_tick {D : List (Int × Int)} {f : Int} (h : D.Pairwise ltD) (hlow : ∀ q ∈ D, f < q.2) : ∀ (n k : Nat), k + n = 64 → (∀ q ∈ D, f + k < q.2) →
    (firstF (soonL D (f + 64)) f k n = none → ∀ q ∈ D, f + 64 < q.2) ∧ (∀ q, firstF (soonL D (f + 64)) f k n = some q → D.head? = some q)
  | 0, k, hk, hq => ⟨fun _ q hm => by have := hq q hm; omega, fun q hf => by unfold firstF at hf; cases hf⟩
  | n + 1, k, hk, hq => by
    have ht := soon_tick hlow (rfl : f + 64 = f + 64) (k := k) (by omega)
    unfold firstF
    cases hs : soonL D (f + 64) (resN f k) with
    | nil =>
      rw [hs, List.map_nil] at ht
      refine first_tick h hlow n (k + 1) (by omega) (fun q hm => ?_)
      have h1 := hq q hm
      have h2 := List.filter_eq_nil_iff.1 ht.symm q hm
      simp only [Bool.and_eq_true, decide_eq_true_eq, not_and] at h2
      omega
    | cons id t =>
      rw [hs, List.map_cons] at ht
      refine ⟨fun h0 => by simp at h0, fun q h0 => ?_⟩
      simp only [Option.some.injEq] at h0
      subst h0
      have hm : (id, f + (k : Int) + 1) ∈ D := by
        have : (id, f + (k : Int) + 1) ∈ D.filter (fun q => decide (f + k < q.2) && decide (q.2 ≤ f + k + 1)) := by rw [← ht]; simp
        exact (List.mem_filter.1 this).1
      cases D with
      | nil => simp at hm
      | cons p D =>
        rw [List.head?_cons]
        have hp := hq p (by simp)
        have e1 : p.2 ≤ f + k + 1 := by
          rcases List.mem_cons.1 hm with e | e
          · rw [← e]; exact Int.le_refl _
          · rw [List.pairwise_cons] at h
            exact ltD_le (h.1 _ e)
        have : (decide (f + k < p.2) && decide (p.2 ≤ f + k + 1)) = true := by simp; omega
        rw [List.filter_cons_of_pos (by simpa using this)] at ht
        injection ht with ht _
        rw [← ht]
theorem first_all {D : List (Int × Int)} {f : Int} (h : OkD f D) : (firstF (soonL D (f + 64)) f 0 64).or (lateL D (f + 64)).head? = D.head? := by
  obtain ⟨h1, h2⟩ := first_tick (f := f) h.rises (fun q hq => (h.low q hq).1) 64 0 rfl (fun q hq => by have := (h.low q hq).1; simpa using this)
  cases e : firstF (soonL D (f + 64)) f 0 64 with
  | none =>
    rw [Option.none_or]
    have : lateL D (f + 64) = D := by
      unfold lateL
      rw [List.filter_eq_self]
      intro q hq
      simpa using h1 e q hq
    rw [this]
  | some q => rw [Option.some_or, h2 q e]
end Go.Proofs.Ytjdedlmphghpnaa
