/-
  The mathematics of owners: replicas in the order in which they should own a number, by any numbers of theirs; replicas as bits. Nothing here speaks of a program's memory.
-/
namespace Go.Proofs.Ytlpihjbnfdfbaaa
set_option linter.unusedVariables false

/-- a stands ahead of b, by the numbers K. -/
def bef (K : Nat → Nat) (a b : Nat) : Bool := decide (K b < K a ∨ (K a = K b ∧ a < b))
theorem bef_iff {K : Nat → Nat} {a b : Nat} : bef K a b = true ↔ (K b < K a ∨ (K a = K b ∧ a < b)) := by simp [bef]
theorem bef_self (K : Nat → Nat) (a : Nat) : bef K a a = false := by simp [bef]
theorem bef_trans {K : Nat → Nat} {a b c : Nat} (h1 : bef K a b = true) (h2 : bef K b c = true) : bef K a c = true := by
  rw [bef_iff] at *; omega
theorem bef_total (K : Nat → Nat) {a b : Nat} (h : a ≠ b) : bef K a b = true ∨ bef K b a = true := by
  simp only [bef_iff]; omega
theorem bef_asymm {K : Nat → Nat} {a b : Nat} (h : bef K a b = true) : bef K b a = false := by
  cases h2 : bef K b a with
  | false => rfl
  | true => rw [bef_iff] at *; omega
/-- how many of l stand ahead of c. -/
def posL (K : Nat → Nat) (l : List Nat) (c : Nat) : Nat := l.countP (fun d => bef K d c)
/-- the rank behind i steps. -/
def rankS (K : Nat → Nat) (l : List Nat) (i : Nat) : List Nat := (l.take i).foldl (fun R c => R.set (posL K l c) c) (List.replicate l.length 0)
def rankL (K : Nat → Nat) (l : List Nat) : List Nat := rankS K l l.length
theorem foldset_len (f : Nat → Nat) : ∀ (t : List Nat) (R : List Nat), (t.foldl (fun R c => R.set (f c) c) R).length = R.length
  | [], R => rfl
  | c :: t, R => by rw [List.foldl_cons, foldset_len f t, List.length_set]
theorem rankS_len (K : Nat → Nat) (l : List Nat) (i : Nat) : (rankS K l i).length = l.length := by
  unfold rankS; rw [foldset_len]; simp
theorem rankS_zero (K : Nat → Nat) (l : List Nat) : rankS K l 0 = List.replicate l.length 0 := by simp [rankS]
theorem rankS_succ (K : Nat → Nat) (l : List Nat) {i : Nat} (h : i < l.length) : rankS K l (i + 1) = (rankS K l i).set (posL K l l[i]) l[i] := by
  unfold rankS; rw [List.take_succ_eq_append_getElem h, List.foldl_append]; rfl
theorem posL_lt (K : Nat → Nat) {l : List Nat} {c : Nat} (h : c ∈ l) : posL K l c < l.length := by
  unfold posL
  rcases Nat.lt_or_ge (l.countP fun d => bef K d c) l.length with h1 | h1
  · exact h1
  · have h2 : l.countP (fun d => bef K d c) = l.length := Nat.le_antisymm (List.countP_le_length) h1
    have := List.countP_eq_length.1 h2 c h
    rw [bef_self] at this; cases this
theorem posL_lt_at (K : Nat → Nat) {l : List Nat} {i : Nat} (h : i < l.length) : posL K l l[i] < l.length := posL_lt K (List.getElem_mem h)
/-- how many of the first k. -/
def posT (K : Nat → Nat) (l : List Nat) (c k : Nat) : Nat := (l.take k).countP (fun d => bef K d c)
theorem posT_zero (K : Nat → Nat) (l : List Nat) (c : Nat) : posT K l c 0 = 0 := by simp [posT]
theorem posT_le (K : Nat → Nat) (l : List Nat) (c k : Nat) : posT K l c k ≤ k := by
  unfold posT; exact Nat.le_trans List.countP_le_length (by rw [List.length_take]; exact Nat.min_le_left _ _)
theorem posT_succ (K : Nat → Nat) (l : List Nat) (c : Nat) {k : Nat} (h : k < l.length) : posT K l c (k + 1) = posT K l c k + if bef K l[k] c = true then 1 else 0 := by
  unfold posT; rw [List.take_succ_eq_append_getElem h, List.countP_append, List.countP_singleton]
theorem posT_all (K : Nat → Nat) (l : List Nat) (c : Nat) : posT K l c l.length = posL K l c := by simp [posT, posL]

/-! the rank is the list in its order -/
def sortL (K : Nat → Nat) (l : List Nat) : List Nat := l.mergeSort (fun a b => !bef K b a)
theorem sort_perm (K : Nat → Nat) (l : List Nat) : (sortL K l).Perm l := List.mergeSort_perm _ _
theorem sort_len (K : Nat → Nat) (l : List Nat) : (sortL K l).length = l.length := (sort_perm K l).length_eq
theorem sort_mem {K : Nat → Nat} {l : List Nat} {x : Nat} : x ∈ sortL K l ↔ x ∈ l := (sort_perm K l).mem_iff
theorem sort_nodup {K : Nat → Nat} {l : List Nat} (h : l.Nodup) : (sortL K l).Nodup := (sort_perm K l).nodup_iff.2 h
theorem sort_le (K : Nat → Nat) (l : List Nat) : (sortL K l).Pairwise (fun a b => (!bef K b a) = true) := by
  refine List.pairwise_mergeSort ?_ ?_ l
  · intro a b c h1 h2
    simp only [Bool.not_eq_true', bef, decide_eq_false_iff_not] at *
    omega
  · intro a b
    by_cases h : a = b
    · subst h; simp [bef_self]
    · rcases bef_total K h with h | h
      · simp [bef_asymm h]
      · simp [bef_asymm h]
theorem sort_lt {K : Nat → Nat} {l : List Nat} (h : l.Nodup) : (sortL K l).Pairwise (fun a b => bef K a b = true) := by
  have h1 := sort_le K l
  have h2 : (sortL K l).Pairwise (· ≠ ·) := sort_nodup h
  refine (h1.and h2).imp ?_
  rintro a b ⟨h3, h4⟩
  rcases bef_total K h4 with h5 | h5
  · exact h5
  · rw [h5] at h3; cases h3
theorem sort_uniq {K : Nat → Nat} {l s : List Nat} (hl : l.Nodup) (hs : s.Pairwise (fun a b => bef K a b = true)) (hp : s.Perm l) : s = sortL K l := by
  refine List.Perm.eq_of_pairwise (le := fun a b => bef K a b = true) ?_ hs (sort_lt hl) (hp.trans (sort_perm K l).symm)
  intro a b _ _ h1 h2
  rw [bef_asymm h1] at h2; cases h2
theorem pos_sort {K : Nat → Nat} {l : List Nat} (h : l.Nodup) {j : Nat} (hj : j < (sortL K l).length) : posL K l (sortL K l)[j] = j := by
  unfold posL
  rw [← (sort_perm K l).countP_eq]
  obtain ⟨s, hs⟩ : ∃ s, s = sortL K l := ⟨_, rfl⟩
  have hlt : s.Pairwise (fun a b => bef K a b = true) := by rw [hs]; exact sort_lt h
  have hj' : j < s.length := by rw [hs]; exact hj
  have e : (sortL K l)[j] = s[j] := by simp only [hs]
  rw [e, ← hs]
  have h0 : s = s.take j ++ s[j] :: s.drop (j + 1) := by
    rw [← List.drop_eq_getElem_cons hj', List.take_append_drop]
  have hc : ∀ x, s.countP (fun d => bef K d x) = (s.take j).countP (fun d => bef K d x) + ((s[j] :: s.drop (j + 1)).countP (fun d => bef K d x)) := by
    intro x; rw [← List.countP_append, ← h0]
  rw [hc]
  have h1 : (s.take j).countP (fun d => bef K d s[j]) = j := by
    have : (s.take j).countP (fun d => bef K d s[j]) = (s.take j).length := by
      refine List.countP_eq_length.2 fun a ha => ?_
      obtain ⟨i, hi, rfl⟩ := List.mem_take_iff_getElem.1 ha
      exact List.pairwise_iff_getElem.1 hlt i j (by omega) hj' (by omega)
    rw [this, List.length_take]; omega
  have h2 : (s[j] :: s.drop (j + 1)).countP (fun d => bef K d s[j]) = 0 := by
    refine List.countP_eq_zero.2 fun a ha => ?_
    rw [Bool.not_eq_true]
    rcases List.mem_cons.1 ha with rfl | ha
    · exact bef_self _ _
    · obtain ⟨i, hi, rfl⟩ := List.mem_drop_iff_getElem.1 ha
      exact bef_asymm (List.pairwise_iff_getElem.1 hlt j _ hj' (by omega) (by omega))
  rw [h1, h2]; rfl
theorem pos_at {K : Nat → Nat} {l : List Nat} (h : l.Nodup) {c : Nat} (hc : c ∈ l) : (sortL K l)[posL K l c]? = some c := by
  obtain ⟨j, hj, rfl⟩ := List.mem_iff_getElem.1 (sort_mem (K := K).2 hc)
  rw [pos_sort h hj]; exact List.getElem?_eq_getElem hj
theorem foldset_other (f : Nat → Nat) (q : Nat) : ∀ (t : List Nat) (R : List Nat), (∀ c ∈ t, f c ≠ q) → (t.foldl (fun R c => R.set (f c) c) R)[q]? = R[q]?
  | [], R, _ => rfl
  | c :: t, R, h => by
    rw [List.foldl_cons, foldset_other f q t _ fun x hx => h x (List.mem_cons_of_mem _ hx)]
    exact List.getElem?_set_ne (h c List.mem_cons_self)
theorem foldset_at (f : Nat → Nat) : ∀ (t : List Nat) (R : List Nat), t.Nodup → (∀ a ∈ t, ∀ b ∈ t, f a = f b → a = b) → (∀ c ∈ t, f c < R.length) → ∀ c ∈ t, (t.foldl (fun R c => R.set (f c) c) R)[f c]? = some c
  | [], R, _, _, _, c, hc => by cases hc
  | x :: t, R, hn, hi, hl, c, hc => by
    rw [List.foldl_cons]
    have hn' := List.nodup_cons.1 hn
    rcases List.mem_cons.1 hc with rfl | hc
    · rw [foldset_other f (f c) t _ ?_]
      · exact List.getElem?_set_self (hl c List.mem_cons_self)
      · intro y hy e
        have := hi y (List.mem_cons_of_mem _ hy) c List.mem_cons_self e
        subst this; exact hn'.1 hy
    · exact foldset_at f t _ hn'.2 (fun a ha b hb => hi a (List.mem_cons_of_mem _ ha) b (List.mem_cons_of_mem _ hb)) (fun y hy => by rw [List.length_set]; exact hl y (List.mem_cons_of_mem _ hy)) c hc
theorem rank_sort {K : Nat → Nat} {l : List Nat} (h : l.Nodup) : rankL K l = sortL K l := by
  apply List.ext_getElem?
  intro j
  by_cases hj : j < (sortL K l).length
  · have hm : (sortL K l)[j] ∈ l := sort_mem.1 (List.getElem_mem hj)
    have hp := pos_sort h hj
    have h1 := foldset_at (posL K l) l (List.replicate l.length 0) h ?_ ?_ _ hm
    · rw [hp] at h1
      unfold rankL rankS
      rw [List.take_length, h1, List.getElem?_eq_getElem hj]
    · intro a ha b hb e
      have h2 := pos_at (K := K) h ha
      rw [e, pos_at h hb] at h2
      exact (Option.some.inj h2).symm
    · intro c hc; rw [List.length_replicate]; exact posL_lt K hc
  · have e : (rankL K l).length = (sortL K l).length := by unfold rankL; rw [rankS_len, sort_len]
    rw [List.getElem?_eq_none (by omega), List.getElem?_eq_none (by omega)]
/-- the first one of a rank. -/
theorem head_sort {K : Nat → Nat} {l : List Nat} {m : Nat} (h : l.Nodup) (hm : m ∈ l) (ha : ∀ d ∈ l, bef K d m = false) : (sortL K l)[0]? = some m := by
  have h0 : posL K l m = 0 := List.countP_eq_zero.2 fun a ha' => by rw [ha a ha']; simp
  rw [← h0]; exact pos_at h hm
theorem sort_head {K : Nat → Nat} {l : List Nat} {m : Nat} (h : l.Nodup) (hm : (sortL K l)[0]? = some m) : m ∈ l ∧ ∀ d ∈ l, bef K d m = false := by
  obtain ⟨h0, e⟩ := List.getElem?_eq_some_iff.1 hm
  subst e
  refine ⟨sort_mem.1 (List.getElem_mem h0), fun d hd => ?_⟩
  have h1 := pos_sort (K := K) h h0
  have := List.countP_eq_zero.1 h1 d hd
  simpa using this
/-- without one of them. -/
theorem sort_without {K : Nat → Nat} {l : List Nat} (h : l.Nodup) {k : Nat} (hk : k < l.length) : sortL K (l.take k ++ l.drop (k + 1)) = (sortL K l).erase l[k] := by
  have hp : (l.take k ++ l.drop (k + 1)).Perm (l.erase l[k]) := by
    have e : l = l.take k ++ l[k] :: l.drop (k + 1) := by rw [← List.drop_eq_getElem_cons hk, List.take_append_drop]
    have h1 : l.Perm (l[k] :: (l.take k ++ l.drop (k + 1))) := by
      refine (List.Perm.of_eq e).trans List.perm_middle
    have h2 := h1.erase l[k]
    rw [List.erase_cons_head] at h2
    exact h2.symm
  refine (sort_uniq ?_ ?_ ?_).symm
  · exact hp.nodup_iff.2 (h.erase _)
  · exact (sort_lt h).sublist List.erase_sublist
  · exact ((sort_perm K l).erase _).trans hp.symm
/-- which of two comes first. -/
theorem find_sort {K : Nat → Nat} {l : List Nat} (h : l.Nodup) {x y : Nat} (hxy : x ≠ y) (hx : x ∈ l) (hy : y ∈ l) :
    (sortL K l).find? (fun c => c == x || c == y) = some (if bef K x y = true then x else y) := by
  cases hf : (sortL K l).find? (fun c => c == x || c == y) with
  | none =>
    have := List.find?_eq_none.1 hf x (sort_mem.2 hx)
    simp at this
  | some a =>
    obtain ⟨h1, us, vs, h2, h3⟩ := List.find?_eq_some_iff_append.1 hf
    have hlt := sort_lt (K := K) h
    rw [h2] at hlt
    have h4 := (List.pairwise_append.1 hlt).2.1
    have h5 := (List.pairwise_cons.1 h4).1
    have go : ∀ u v, u ≠ v → v ∈ l → (∀ c, c ∈ us → c ≠ v) → a = u → bef K u v = true := by
      intro u v huv hv hno hau
      subst hau
      have hv2 : v ∈ us ++ a :: vs := by rw [← h2]; exact sort_mem.2 hv
      rcases List.mem_append.1 hv2 with hv3 | hv3
      · exact absurd rfl (hno v hv3)
      · rcases List.mem_cons.1 hv3 with e | hv4
        · exact absurd e.symm huv
        · exact h5 v hv4
    have hno : ∀ c, c ∈ us → c ≠ x ∧ c ≠ y := by
      intro c hc
      have := h3 c hc
      simpa using this
    have : a = x ∨ a = y := by simpa using h1
    rcases this with e | e
    · rw [if_pos (go x y hxy hy (fun c hc => (hno c hc).2) e), e]
    · rw [if_neg, e]
      rw [bef_asymm (go y x (Ne.symm hxy) hx (fun c hc => (hno c hc).1) e)]; simp

/-! replicas as numbers, as bits -/
def natI (l : List Nat) : List Int := l.map (fun (n : Nat) => (n : Int))
theorem natI_len (l : List Nat) : (natI l).length = l.length := by simp [natI]
theorem natI_at {l : List Nat} {i : Nat} (h : i < (natI l).length) : (natI l)[i] = ((l[i]'(by rw [natI_len] at h; exact h) : Nat) : Int) := by simp [natI]

/-- the i-th one can be a replica, and is greater than the one ahead of it. -/
def okI (l : List Int) (i : Nat) : Bool := decide (0 ≤ l.getD i 0 ∧ l.getD i 0 < 16 ∧ (i = 0 ∨ l.getD (i - 1) 0 < l.getD i 0))
def risL (l : List Int) : Bool := (List.range l.length).all (okI l)
theorem risL_no {l : List Int} {i : Nat} (h : i < l.length) (hi : okI l i = false) : risL l = false := by
  cases hr : risL l with
  | false => rfl
  | true =>
    have := List.all_eq_true.1 hr i (List.mem_range.2 h)
    rw [hi] at this; cases this
theorem risL_yes {l : List Int} (h : ∀ j, j < l.length → okI l j = true) : risL l = true :=
  List.all_eq_true.2 fun i hi => h i (List.mem_range.1 hi)
/-- replicas, rising. -/
structure Reps (m : List Nat) : Prop where
  up : m.Pairwise (· < ·)
  lt : ∀ x ∈ m, x < 16
theorem Reps.nodup {m : List Nat} (h : Reps m) : m.Nodup := h.up.imp fun hab => by omega
theorem rising_len : ∀ (k : Nat) (m : List Nat), m.Pairwise (· < ·) → (∀ x ∈ m, k ≤ x ∧ x < 16) → m.length + k ≤ 16 ∨ m = []
  | k, [], _, _ => .inr rfl
  | k, x :: m, h, hl => by
    left
    have h1 := List.pairwise_cons.1 h
    have hx := hl x List.mem_cons_self
    rcases rising_len (x + 1) m h1.2 (fun y hy => ⟨h1.1 y hy, (hl y (List.mem_cons_of_mem _ hy)).2⟩) with h2 | h2
    · rw [List.length_cons]; omega
    · subst h2; rw [List.length_cons, List.length_nil]; omega
theorem Reps.len {m : List Nat} (h : Reps m) : m.length ≤ 16 := by
  rcases rising_len 0 m h.up (fun x hx => ⟨Nat.zero_le _, h.lt x hx⟩) with h | h
  · omega
  · subst h; simp
theorem right_reps {l : List Int} (h : risL l = true) : ∃ m : List Nat, l = natI m ∧ Reps m := by
  have hi : ∀ i (hi : i < l.length), 0 ≤ l[i] ∧ l[i] < 16 ∧ (∀ (h0 : 0 < i), l[i - 1] < l[i]) := by
    intro i hi
    have h1 := List.all_eq_true.1 h i (List.mem_range.2 hi)
    have h2 := of_decide_eq_true h1
    rw [List.getD_eq_getElem?_getD, List.getD_eq_getElem?_getD, List.getElem?_eq_getElem hi, List.getElem?_eq_getElem (by omega)] at h2
    simp only [Option.getD_some] at h2
    exact ⟨h2.1, h2.2.1, fun h0 => by rcases h2.2.2 with h3 | h3 <;> omega⟩
  refine ⟨l.map Int.toNat, ?_, ?_, ?_⟩
  · unfold natI
    apply List.ext_getElem
    · simp
    · intro i h1 h2
      have := hi i h1
      simp only [List.getElem_map]; omega
  · have step : ∀ i j (hj : j < l.length) (hij : i < j), l[i] < l[j] := by
      intro i j
      induction j with
      | zero => intro hj hij; omega
      | succ j ih =>
        intro hj hij
        have h1 := (hi (j + 1) hj).2.2 (by omega)
        simp only [Nat.add_sub_cancel] at h1
        rcases Nat.lt_or_ge i j with h2 | h2
        · have := ih (by omega) h2; omega
        · obtain rfl : i = j := by omega
          exact h1
    refine List.pairwise_iff_getElem.2 fun i j h1 h2 hij => ?_
    simp only [List.length_map] at h1 h2
    have h3 := step i j h2 hij
    have h4 := hi i h1
    simp only [List.getElem_map]; omega
  · intro x hx
    obtain ⟨z, hz, rfl⟩ := List.mem_map.1 hx
    obtain ⟨i, h1, rfl⟩ := List.mem_iff_getElem.1 hz
    have := hi i h1; omega
theorem reps_right {m : List Nat} (h : Reps m) : risL (natI m) = true := by
  refine risL_yes fun j hj => ?_
  rw [natI_len] at hj
  unfold natI
  refine decide_eq_true ?_
  rw [List.getD_eq_getElem?_getD, List.getD_eq_getElem?_getD, List.getElem?_eq_getElem (by simpa using hj), List.getElem?_eq_getElem (by rw [List.length_map]; omega)]
  simp only [Option.getD_some, List.getElem_map]
  have h1 := h.lt m[j] (List.getElem_mem hj)
  refine ⟨by omega, by omega, ?_⟩
  rcases Nat.eq_zero_or_pos j with h0 | h0
  · exact .inl h0
  · right
    have := List.pairwise_iff_getElem.1 h.up (j - 1) j (by omega) hj (by omega)
    omega
/-- their mask. -/
def mskL : List Nat → Nat
  | [] => 0
  | a :: l => 2 ^ a + mskL l
theorem mskL_snoc (a : Nat) : ∀ l : List Nat, mskL (l ++ [a]) = mskL l + 2 ^ a
  | [] => by simp [mskL]
  | b :: l => by rw [List.cons_append, mskL, mskL, mskL_snoc a l]; omega
theorem mskL_take {l : List Nat} {i : Nat} (h : i < l.length) : mskL (l.take (i + 1)) = mskL (l.take i) + 2 ^ l[i] := by
  rw [List.take_succ_eq_append_getElem h, mskL_snoc]
theorem mskL_lt {k : Nat} : ∀ (n : Nat) (l : List Nat), l.length = n → l.Pairwise (· < ·) → (∀ x ∈ l, x < k) → mskL l < 2 ^ k := by
  intro n
  induction n generalizing k with
  | zero => intro l hl _ _; obtain rfl := List.eq_nil_of_length_eq_zero hl; exact Nat.two_pow_pos k
  | succ n ih =>
    intro l hl hp hx
    have hne : l ≠ [] := by intro e; rw [e] at hl; cases hl
    obtain ⟨t, a, rfl⟩ : ∃ t a, l = t ++ [a] := ⟨l.dropLast, l.getLast hne, (List.dropLast_concat_getLast hne).symm⟩
    rw [mskL_snoc]
    rw [List.length_append, List.length_singleton] at hl
    have hp2 := List.pairwise_append.1 hp
    have h1 := ih (k := a) t (by omega) hp2.1 (fun x hxt => hp2.2.2 x hxt a (by simp))
    have h2 := hx a (by simp)
    have : 2 ^ (a + 1) ≤ 2 ^ k := Nat.pow_le_pow_right (by omega) h2
    rw [Nat.pow_succ] at this; omega
theorem mask_or {m : Nat} {a : Nat} (h : m < 2 ^ a) : m ||| 2 ^ a = m + 2 ^ a := by
  have := Nat.two_pow_add_eq_or_of_lt h 1
  rw [Nat.mul_one] at this
  rw [Nat.or_comm, ← this, Nat.add_comm]
/-- what the bits say. -/
def bitN (n i : Nat) : Bool := n / 2 ^ i % 2 == 1
def listM (n : Nat) (k : Nat) : List Nat := (List.range k).filter (bitN n)
theorem listM_zero (n : Nat) : listM n 0 = [] := rfl
theorem listM_succ (n k : Nat) : listM n (k + 1) = if bitN n k = true then listM n k ++ [k] else listM n k := by
  unfold listM
  rw [List.range_succ, List.filter_append]
  by_cases h : bitN n k = true
  · rw [if_pos h]; simp [h]
  · rw [if_neg h]; simp [h]
theorem listM_mem {n k x : Nat} : x ∈ listM n k ↔ x < k ∧ bitN n x = true := by simp [listM]
theorem listM_len (n k : Nat) : (listM n k).length ≤ k := by
  have := List.length_filter_le (bitN n) (List.range k)
  rw [List.length_range] at this; exact this
theorem listM_reps (n : Nat) : Reps (listM n 16) :=
  ⟨(List.pairwise_lt_range).sublist List.filter_sublist, fun x hx => (listM_mem.1 hx).1⟩
theorem mask_listM (n : Nat) : ∀ k, mskL (listM n k) = n % 2 ^ k
  | 0 => by simp [listM, mskL, Nat.mod_one]
  | k + 1 => by
    rw [listM_succ]
    have h := Nat.mod_pow_succ (b := 2) (k := k) (x := n)
    have h2 : n / 2 ^ k % 2 < 2 := Nat.mod_lt _ (by omega)
    by_cases hb : bitN n k = true
    · rw [if_pos hb, mskL_snoc, mask_listM n k, h]
      have : n / 2 ^ k % 2 = 1 := by simpa [bitN] using hb
      rw [this, Nat.mul_one]
    · rw [if_neg hb, mask_listM n k, h]
      have : n / 2 ^ k % 2 ≠ 1 := by simpa [bitN] using hb
      have : n / 2 ^ k % 2 = 0 := by omega
      rw [this]; rfl
theorem bit_add_lo {m a i : Nat} (hi : i < a) : bitN (m + 2 ^ a) i = bitN m i := by
  unfold bitN
  obtain ⟨d, rfl⟩ : ∃ d, a = i + 1 + d := ⟨a - i - 1, by omega⟩
  rw [Nat.pow_add, Nat.pow_succ, Nat.mul_assoc, Nat.add_mul_div_left _ _ (Nat.two_pow_pos i), Nat.add_mul_mod_self_left]
theorem bit_add_at {m a : Nat} (h : m < 2 ^ a) : bitN (m + 2 ^ a) a = true := by
  unfold bitN
  rw [Nat.add_div_right _ (Nat.two_pow_pos a), Nat.div_eq_of_lt h]; rfl
theorem bit_hi {m a i : Nat} (h : m < 2 ^ a) (hi : a ≤ i) : bitN m i = false := by
  have : m < 2 ^ i := Nat.lt_of_lt_of_le h (Nat.pow_le_pow_right (by omega) hi)
  unfold bitN
  rw [Nat.div_eq_of_lt this]; rfl
theorem bit_mask : ∀ (n : Nat) (l : List Nat), l.length = n → l.Pairwise (· < ·) → ∀ i, bitN (mskL l) i = decide (i ∈ l) := by
  intro n
  induction n with
  | zero => intro l hl _ i; obtain rfl := List.eq_nil_of_length_eq_zero hl; simp [mskL, bitN]
  | succ n ih =>
    intro l hl hp i
    have hne : l ≠ [] := by intro e; rw [e] at hl; cases hl
    obtain ⟨t, a, rfl⟩ : ∃ t a, l = t ++ [a] := ⟨l.dropLast, l.getLast hne, (List.dropLast_concat_getLast hne).symm⟩
    rw [mskL_snoc]
    rw [List.length_append, List.length_singleton] at hl
    have hp2 := List.pairwise_append.1 hp
    have hlt : ∀ x ∈ t, x < a := fun x hxt => hp2.2.2 x hxt a (by simp)
    have hm := mskL_lt (k := a) t.length t rfl hp2.1 hlt
    rcases Nat.lt_trichotomy i a with h | h | h
    · rw [bit_add_lo h, ih t (by omega) hp2.1 i]
      have : i ≠ a := by omega
      simp [this]
    · subst h; rw [bit_add_at hm]; simp
    · have h1 : mskL t + 2 ^ a < 2 ^ (a + 1) := by rw [Nat.pow_succ]; omega
      rw [bit_hi h1 (by omega)]
      have : i ∉ t := fun hi => by have := hlt i hi; omega
      have h2 : i ≠ a := by omega
      simp [this, h2]
theorem listM_mask {l : List Nat} (h : Reps l) : listM (mskL l) 16 = l := by
  refine List.Perm.eq_of_pairwise (le := (· < ·)) (fun a b _ _ h1 h2 => by omega) (listM_reps _).up h.up ?_
  refine (List.perm_ext_iff_of_nodup (listM_reps _).nodup h.nodup).2 fun x => ?_
  rw [listM_mem, bit_mask l.length l rfl h.up x]
  simp only [decide_eq_true_eq]
  exact ⟨fun hx => hx.2, fun hx => ⟨h.lt x hx, hx⟩⟩
theorem mskL_reps_lt {l : List Nat} (h : Reps l) : mskL l < 65536 := mskL_lt (k := 16) l.length l rfl h.up h.lt
/-- one bit more. -/
theorem bit_or {n a i : Nat} : bitN (n ||| 2 ^ a) i = (bitN n i || decide (i = a)) := by
  have e : ∀ m j, bitN m j = m.testBit j := by
    intro m j
    rw [Nat.testBit_eq_decide_div_mod_eq]
    unfold bitN; by_cases h : m / 2 ^ j % 2 = 1 <;> simp [h]
  rw [e, e, Nat.testBit_or, Nat.testBit_two_pow]
  by_cases h : a = i
  · subst h; simp
  · have : i ≠ a := fun h' => h h'.symm
    simp [h, this]
end Go.Proofs.Ytlpihjbnfdfbaaa
