/-
  Lists that rise, by whatever order: where something belongs, put in, taken out; mathematics alone.
-/
namespace Go.Proofs.Ytjdedlmphghpnaa
set_option linter.unusedVariables false
variable {α : Type} {lt : α → α → Prop} [DecidableRel lt]
/-- where x belongs in l. -/
structure PosL (lt : α → α → Prop) (l : List α) (x : α) (i : Nat) : Prop where
  le : i ≤ l.length
  lo : ∀ t y, t < i → l[t]? = some y → lt y x
  hi : ∀ t y, i ≤ t → l[t]? = some y → ¬ lt y x
def insL (lt : α → α → Prop) [DecidableRel lt] (x : α) : List α → List α
  | [] => [x]
  | y :: t => if lt y x then y :: insL lt x t else x :: y :: t
theorem insL_cons (x y : α) (t : List α) : insL lt x (y :: t) = if lt y x then y :: insL lt x t else x :: y :: t := rfl
theorem PosL.ins {x : α} : ∀ {l : List α} {i : Nat}, PosL lt l x i → l.take i ++ x :: l.drop i = insL lt x l
  | [], i, h => by
    have := h.le
    have : i = 0 := by simpa using this
    subst this; rfl
  | y :: t, 0, h => by
    unfold insL
    rw [if_neg (h.hi 0 y (by omega) rfl)]; rfl
  | y :: t, i + 1, h => by
    unfold insL
    rw [if_pos (h.lo 0 y (by omega) rfl)]
    have : PosL lt t x i := ⟨by have := h.le; simp at this; omega, fun k z hk hz => h.lo (k + 1) z (by omega) (by simpa using hz), fun k z hk hz => h.hi (k + 1) z (by omega) (by simpa using hz)⟩
    have ih := this.ins
    simp only [List.take_succ_cons, List.drop_succ_cons, List.cons_append, ih]
theorem mem_insL {x y : α} : ∀ {l : List α}, y ∈ insL lt x l ↔ y = x ∨ y ∈ l
  | [] => by simp [insL]
  | z :: t => by
    unfold insL
    split
    · rw [List.mem_cons, mem_insL, List.mem_cons]
      constructor
      · rintro (h | h | h)
        · exact .inr (.inl h)
        · exact .inl h
        · exact .inr (.inr h)
      · rintro (h | h | h)
        · exact .inr (.inl h)
        · exact .inl h
        · exact .inr (.inr h)
    · simp [List.mem_cons]
theorem insL_len (x : α) : ∀ (l : List α), (insL lt x l).length = l.length + 1
  | [] => rfl
  | z :: t => by
    unfold insL
    split
    · simp [insL_len x t]
    · simp
/-- what an order must be. -/
structure OrdL (lt : α → α → Prop) : Prop where
  irr : ∀ a, ¬ lt a a
  tr : ∀ a b c, lt a b → lt b c → lt a c
  tot : ∀ a b, ¬ lt a b → ¬ lt b a → a = b
theorem insL_rises (O : OrdL lt) {x : α} : ∀ {l : List α}, l.Pairwise lt → x ∉ l → (insL lt x l).Pairwise lt
  | [], _, _ => by simp [insL]
  | y :: t, h, hx => by
    unfold insL
    rw [List.pairwise_cons] at h
    simp only [List.mem_cons, not_or] at hx
    split
    · rename_i hy
      rw [List.pairwise_cons]
      refine ⟨fun z hz => ?_, insL_rises O h.2 hx.2⟩
      rcases mem_insL.1 hz with e | e
      · rw [e]; exact hy
      · exact h.1 z e
    · rename_i hy
      have hxy : lt x y := Decidable.byContradiction fun hn => hx.1 (O.tot _ _ hn hy)
      refine List.pairwise_cons.2 ⟨fun z hz => ?_, List.pairwise_cons.2 ⟨h.1, h.2⟩⟩
      rcases List.mem_cons.1 hz with e | e
      · rw [e]; exact hxy
      · exact O.tr _ _ _ hxy (h.1 z e)
/-- put into a part. -/
theorem filter_insL (O : OrdL lt) (q : α → Bool) (x : α) : ∀ {l : List α}, l.Pairwise lt → x ∉ l → (insL lt x l).filter q = if q x then insL lt x (l.filter q) else l.filter q
  | [], _, _ => by
    by_cases hq : q x <;> simp [insL, hq]
  | y :: t, h, hx => by
    rw [List.pairwise_cons] at h
    simp only [List.mem_cons, not_or] at hx
    have ih := filter_insL O q x h.2 hx.2
    rw [insL_cons]
    by_cases hy : lt y x
    · rw [if_pos hy, List.filter_cons, ih]
      by_cases hq : q x
      · rw [if_pos hq, if_pos hq]
        by_cases hqy : q y
        · rw [if_pos hqy, List.filter_cons_of_pos hqy]
          rw [insL_cons, if_pos hy]
        · rw [if_neg hqy, List.filter_cons_of_neg hqy]
      · rw [if_neg hq, if_neg hq, List.filter_cons]
    · rw [if_neg hy, List.filter_cons]
      by_cases hq : q x
      · rw [if_pos hq, if_pos hq]
        have hxy : lt x y := Decidable.byContradiction fun hn => hx.1 (O.tot _ _ hn hy)
        have key : ∀ m : List α, (∀ z ∈ m, ¬ lt z x) → insL lt x m = x :: m := by
          intro m hm
          cases m with
          | nil => rfl
          | cons z m => rw [insL_cons, if_neg (hm z (by simp))]
        rw [key]
        intro z hz hzx
        rw [List.mem_filter] at hz
        rcases List.mem_cons.1 hz.1 with e | e
        · rw [e] at hzx; exact hy hzx
        · exact O.irr _ (O.tr _ _ _ (O.tr _ _ _ hxy (h.1 z e)) hzx)
      · rw [if_neg hq, if_neg hq]
/-- what rises by a number, of those that have one time: their Ids rise. -/
theorem map_insL {β : Type} {lu : β → β → Prop} [DecidableRel lu] (f : α → β) (x : α) : ∀ (l : List α), (∀ y ∈ l, lt y x ↔ lu (f y) (f x)) → (insL lt x l).map f = insL lu (f x) (l.map f)
  | [], _ => rfl
  | y :: t, h => by
    have hy := h y (by simp)
    have ih := map_insL f x t (fun z hz => h z (by simp [hz]))
    rw [insL_cons, List.map_cons (l := t), insL_cons]
    by_cases e : lt y x
    · rw [if_pos e, if_pos (hy.1 e), List.map_cons, ih]
    · rw [if_neg e, if_neg (fun h' => e (hy.2 h')), List.map_cons, List.map_cons]
omit [DecidableRel lt] in
/-- one taken out at its place. -/
theorem del_at (O : OrdL lt) [DecidableEq α] {x : α} : ∀ {l : List α} {i : Nat}, l.Pairwise lt → l[i]? = some x → l.take i ++ l.drop (i + 1) = l.filter (fun y => decide (y ≠ x))
  | [], i, _, h => by simp at h
  | y :: t, 0, hs, h => by
    rw [List.pairwise_cons] at hs
    simp only [List.getElem?_cons_zero, Option.some.injEq] at h
    subst h
    have : t.filter (fun z => decide (z ≠ y)) = t := List.filter_eq_self.2 fun z hz => by
      have : z ≠ y := fun e => O.irr y (by have := hs.1 z hz; rwa [e] at this)
      simpa using this
    rw [List.filter_cons_of_neg (by simp), this]
    simp
  | y :: t, i + 1, hs, h => by
    rw [List.pairwise_cons] at hs
    simp only [List.getElem?_cons_succ] at h
    have hmem : x ∈ t := List.mem_of_getElem? h
    have hne : y ≠ x := fun e => O.irr x (by have := hs.1 x hmem; rwa [e] at this)
    rw [List.filter_cons_of_pos (by simpa using hne), ← del_at O hs.2 h]
    simp
omit [DecidableRel lt] in
/-- who is there stands where it belongs. -/
theorem PosL.mem (O : OrdL lt) {l : List α} {x : α} {i : Nat} (hs : l.Pairwise lt) (h : PosL lt l x i) : x ∈ l ↔ l[i]? = some x := by
  constructor
  · intro hm
    obtain ⟨t, ht, e⟩ := List.getElem_of_mem hm
    have e' : l[t]? = some x := by rw [List.getElem?_eq_getElem ht, e]
    rcases Nat.lt_trichotomy t i with h1 | h1 | h1
    · exact absurd (h.lo t x h1 e') (O.irr x)
    · rw [← h1]; exact e'
    · exfalso
      have hil : i < l.length := by omega
      have hi := h.hi i l[i] (Nat.le_refl _) (List.getElem?_eq_getElem hil)
      have := List.pairwise_iff_getElem.1 hs i t hil ht h1
      rw [e] at this
      exact hi this
  · exact fun h => List.mem_of_getElem? h
def posLw (lt : α → α → Prop) [DecidableRel lt] (x : α) : List α → Nat
  | [] => 0
  | y :: t => if lt y x then posLw lt x t + 1 else 0
theorem PosL.eq {x : α} : ∀ {l : List α} {i : Nat}, PosL lt l x i → i = posLw lt x l
  | [], i, h => by
    have h1 := h.le
    have h2 : i = 0 := by simpa using h1
    exact h2
  | y :: t, 0, h => by
    unfold posLw
    rw [if_neg (h.hi 0 y (by omega) rfl)]
  | y :: t, i + 1, h => by
    unfold posLw
    rw [if_pos (h.lo 0 y (by omega) rfl)]
    have : PosL lt t x i := ⟨by have := h.le; simp at this; omega, fun k z hk hz => h.lo (k + 1) z (by omega) (by simpa using hz), fun k z hk hz => h.hi (k + 1) z (by omega) (by simpa using hz)⟩
    rw [this.eq]
theorem posL_is (O : OrdL lt) {x : α} : ∀ {l : List α}, l.Pairwise lt → PosL lt l x (posLw lt x l)
  | [], _ => ⟨Nat.le_refl _, fun t y h => absurd h (Nat.not_lt_zero _), fun t y _ h => by simp at h⟩
  | y :: t, hs => by
    rw [List.pairwise_cons] at hs
    have ih := posL_is O (x := x) hs.2
    unfold posLw
    by_cases e : lt y x
    · rw [if_pos e]
      refine ⟨by have := ih.le; simp; omega, fun k z hk hz => ?_, fun k z hk hz => ?_⟩
      · cases k with
        | zero => simp at hz; subst hz; exact e
        | succ k => exact ih.lo k z (by omega) (by simpa using hz)
      · cases k with
        | zero => omega
        | succ k => exact ih.hi k z (by omega) (by simpa using hz)
    · rw [if_neg e]
      refine ⟨Nat.zero_le _, fun k z hk => absurd hk (Nat.not_lt_zero _), fun k z hk hz hlt => ?_⟩
      cases k with
      | zero => simp at hz; subst hz; exact e hlt
      | succ k => exact e (O.tr _ _ _ (hs.1 z (List.mem_of_getElem? (by simpa using hz))) hlt)
theorem posL_ins (O : OrdL lt) {x : α} {l : List α} (hs : l.Pairwise lt) : l.take (posLw lt x l) ++ x :: l.drop (posLw lt x l) = insL lt x l := (posL_is O hs).ins
theorem posL_mem (O : OrdL lt) {x : α} {l : List α} (hs : l.Pairwise lt) : x ∈ l ↔ l[posLw lt x l]? = some x := (posL_is O hs).mem O hs
/-- by times, of the same time by Ids. -/
def ltD (p q : Int × Int) : Prop := p.2 < q.2 ∨ (p.2 = q.2 ∧ p.1 < q.1)
instance : DecidableRel ltD := fun p q => inferInstanceAs (Decidable (_ ∨ _))
theorem ordDu : OrdL ltD := ⟨fun a h => by unfold ltD at h; omega, fun a b c h1 h2 => by unfold ltD at *; omega, fun a b h1 h2 => by
  unfold ltD at *
  have e1 : a.1 = b.1 := by omega
  have e2 : a.2 = b.2 := by omega
  exact Prod.ext e1 e2⟩
def ltZ (a b : Int) : Prop := a < b
instance : DecidableRel ltZ := fun a b => inferInstanceAs (Decidable (a < b))
theorem ordZ : OrdL ltZ := ⟨fun a h => by unfold ltZ at h; omega, fun a b c h1 h2 => by unfold ltZ at *; omega, fun a b h1 h2 => by unfold ltZ at *; omega⟩
end Go.Proofs.Ytjdedlmphghpnaa
