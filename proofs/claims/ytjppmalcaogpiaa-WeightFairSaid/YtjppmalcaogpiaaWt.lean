/-
  Plain mathematics of turns: who comes when, by parts and debts. Nothing here speaks of a program's memory.
-/
import Derived.Test.YtjppmalcaogpiaaWb
namespace Go.Proofs.Ytjppmalcaogpiaa

theorem V_one : fV (2 ^ 52) fOne = fU := by
  obtain ⟨q, hq⟩ : ∃ q, q = 1022 := ⟨_, rfl⟩
  have h := fV_at (B := 2 ^ 52) (q := q) (k := 2 ^ 52) (Nat.two_pow_pos 52) (Nat.le_refl _) (by omega)
  rw [show q * 2 ^ 52 + 2 ^ 52 = fOne by rw [hq, fOne_val], ← Nat.pow_add] at h
  rw [h]; exact (fU_eq (by omega)).symm
def fTwo : Nat := 1024 * 2 ^ 52
theorem V_two : fV (2 ^ 52) fTwo = 2 * fU := by
  obtain ⟨q, hq⟩ : ∃ q, q = 1023 := ⟨_, rfl⟩
  have h := fV_at (B := 2 ^ 52) (q := q) (k := 2 ^ 52) (Nat.two_pow_pos 52) (Nat.le_refl _) (by omega)
  rw [show q * 2 ^ 52 + 2 ^ 52 = fTwo by rw [hq]; decide, ← Nat.pow_add] at h
  obtain ⟨K, hK⟩ : ∃ K, K = 1074 := ⟨_, rfl⟩
  rw [h, fU_eq hK, show 52 + q = K + 1 by omega, Nat.pow_succ, Nat.mul_comm]
theorem one_lt_two : fOne < fTwo := by decide
theorem two_lt : fTwo < fI := by decide
theorem one_pos : 0 < fOne := by decide
theorem one_lt : fOne < fI := by decide

theorem prtF_le (a b : Nat) : prtF a b ≤ fOne := by
  have h1 := one_lt
  rcases part_ways a b with ⟨_, h⟩ | ⟨_, _, h⟩ | ⟨_, _, _, h⟩ | ⟨ha, hb, hab, h⟩
  · rw [h]; exact Nat.zero_le _
  · rw [h]; exact Nat.zero_le _
  · rw [h]; exact Nat.le_refl _
  · obtain ⟨R, hR, _, hS⟩ := div_pos (clF_lt a) (by omega) (clF_lt b) (by omega)
    rw [hR] at h
    injection h with h
    rw [← h]
    have hp : 0 < fV (2 ^ 52) (clF b) := by have := fV_lt (Nat.two_pow_pos 52) (show 0 < clF b by omega); rwa [fV_zero (Nat.two_pow_pos 52)] at this
    have hlt := Nat.le_of_lt (fV_lt (Nat.two_pow_pos 52) hab)
    have hO := RS.exact (r := fOne) (Nat.le_of_lt one_lt) hp
    rw [V_one] at hO
    refine RS.mono hp hp hS hO ?_
    exact Nat.mul_le_mul_right _ (by rw [Nat.mul_comm]; exact Nat.mul_le_mul_left _ hlt)

def subF (x : Nat) : Nat := (Ieee.double.sub x fOne).getD 0
theorem add_two {d p : Nat} (hd : d ≤ fOne) (hp : p ≤ fOne) : Ieee.double.add d p = some (addF d p) ∧ addF d p ≤ fTwo := by
  have h1 := one_lt
  obtain ⟨R, h2, h3, h4⟩ := add_pos (x := d) (y := p) (by omega) (by omega)
  have e : addF d p = R := by unfold addF; rw [h2]; rfl
  rw [e]
  refine ⟨h2, RS.mono (by omega) (by omega) h4 (RS.exact1 (r := fTwo) (Nat.le_of_lt two_lt)) ?_⟩
  have a1 := fV_le (Nat.two_pow_pos 52) hd
  have a2 := fV_le (Nat.two_pow_pos 52) hp
  rw [V_one] at a1 a2
  rw [V_two]; omega
theorem sub_one {x : Nat} (h1 : fOne ≤ x) (h2 : x ≤ fTwo) : Ieee.double.sub x fOne = some (subF x) ∧ subF x ≤ fOne := by
  have h := two_lt
  obtain ⟨R, a1, a2, a3⟩ := sub_pos (x := x) (y := fOne) (by omega) h1
  have e : subF x = R := by unfold subF; rw [a1]; rfl
  rw [e]
  refine ⟨a1, RS.mono (by omega) (by omega) a3 (RS.exact1 (r := fOne) (Nat.le_of_lt one_lt)) ?_⟩
  have b1 := fV_le (Nat.two_pow_pos 52) h2
  rw [V_two] at b1
  rw [V_one]; omega
theorem addF_zero {p : Nat} (hp : p ≤ fOne) : addF 0 p = p := by
  have h1 := one_lt
  obtain ⟨R, h2, h3, h4⟩ := add_pos (x := 0) (y := p) (by omega) (by omega)
  have e : addF 0 p = R := by unfold addF; rw [h2]; rfl
  rw [e]
  rw [fV_zero (Nat.two_pow_pos 52), Nat.zero_add] at h4
  have hE := RS.exact1 (r := p) (by unfold fI at h1; omega)
  exact Nat.le_antisymm (RS.mono (by omega) (by omega) h4 hE (Nat.le_refl _)) (RS.mono (by omega) (by omega) hE h4 (Nat.le_refl _))
theorem subF_one : subF fOne = 0 := by
  obtain ⟨R, a1, a2, a3⟩ := sub_pos (x := fOne) (y := fOne) one_lt (Nat.le_refl _)
  have e : subF fOne = R := by unfold subF; rw [a1]; rfl
  rw [e]
  rw [Nat.sub_self] at a3
  have hE := RS.exact1 (r := 0) (by omega)
  rw [fV_zero (Nat.two_pow_pos 52)] at hE
  exact Nat.le_zero.1 (RS.mono (by omega) (by omega) a3 hE (Nat.le_refl _))

/-- a debt behind one visit, and whether its turn has come. -/
def nextD (d p : Nat) : Nat := if addF d p < fOne then addF d p else subF (addF d p)
def comes (d p : Nat) : Bool := decide (fOne ≤ addF d p)
theorem nextD_le {d p : Nat} (hd : d ≤ fOne) (hp : p ≤ fOne) : nextD d p ≤ fOne := by
  unfold nextD
  split
  · omega
  · exact (sub_one (by omega) (add_two hd hp).2).2

/-- debts and turns behind k steps, of which each one visits the next one. -/
def stT (ps : List Nat) : Nat → List Nat × List Nat
  | 0 => (List.replicate ps.length 0, [])
  | k + 1 =>
    let i := k % ps.length
    let d := (stT ps k).1.getD i 0
    let p := ps.getD i 0
    ((stT ps k).1.set i (nextD d p), if comes d p then (stT ps k).2 ++ [i] else (stT ps k).2)
theorem stT_len (ps : List Nat) (k : Nat) : (stT ps k).1.length = ps.length := by
  induction k with
  | zero => simp [stT]
  | succ k ih => simp [stT, ih]
theorem stT_le {ps : List Nat} (hp : ∀ x ∈ ps, x ≤ fOne) (k : Nat) : ∀ x ∈ (stT ps k).1, x ≤ fOne := by
  induction k with
  | zero => intro x hx; simp [stT] at hx; rw [hx.2]; exact Nat.zero_le _
  | succ k ih =>
    intro x hx
    simp only [stT] at hx
    rcases List.mem_or_eq_of_mem_set hx with h | h
    · exact ih x h
    · rw [h]
      refine nextD_le ?_ ?_
      · rw [List.getD_eq_getElem?_getD]
        cases hc : (stT ps k).1[k % ps.length]? with
        | none => exact Nat.zero_le _
        | some y => exact ih y (List.mem_of_getElem? hc)
      · rw [List.getD_eq_getElem?_getD]
        cases hc : ps[k % ps.length]? with
        | none => exact Nat.zero_le _
        | some y => exact hp y (List.mem_of_getElem? hc)
/-- who came stays. -/
theorem stT_mono (ps : List Nat) (k n : Nat) : ∃ t, (stT ps (k + n)).2 = (stT ps k).2 ++ t := by
  induction n with
  | zero => exact ⟨[], by simp⟩
  | succ n ih =>
    obtain ⟨t, ht⟩ := ih
    rw [show k + (n + 1) = k + n + 1 by omega]
    simp only [stT]
    split
    · exact ⟨t ++ [(k + n) % ps.length], by rw [ht, List.append_assoc]⟩
    · exact ⟨t, ht⟩
theorem stT_mono' (ps : List Nat) {k n : Nat} (h : k ≤ n) : ∃ t, (stT ps n).2 = (stT ps k).2 ++ t := by
  have := stT_mono ps k (n - k); rwa [show k + (n - k) = n by omega] at this
theorem stT_len_mono (ps : List Nat) {k n : Nat} (h : k ≤ n) : (stT ps k).2.length ≤ (stT ps n).2.length := by
  obtain ⟨t, ht⟩ := stT_mono' ps h; rw [ht, List.length_append]; omega
theorem stT_mem (ps : List Nat) (hm : 0 < ps.length) (k : Nat) : ∀ x ∈ (stT ps k).2, x < ps.length := by
  induction k with
  | zero => intro x hx; simp [stT] at hx
  | succ k ih =>
    intro x hx
    simp only [stT] at hx
    split at hx
    · rcases List.mem_append.1 hx with h | h
      · exact ih x h
      · rw [List.mem_singleton.1 h]; exact Nat.mod_lt _ hm
    · exact ih x hx

/-- debt and turns of one of them behind v visits. -/
def trn (p : Nat) : Nat → Nat × Nat
  | 0 => (0, 0)
  | v + 1 => (nextD (trn p v).1 p, (trn p v).2 + if comes (trn p v).1 p then 1 else 0)
/-- how often one has been visited. -/
def vis (m i : Nat) : Nat → Nat
  | 0 => 0
  | k + 1 => vis m i k + if k % m = i then 1 else 0
theorem vis_eq {m i : Nat} (hm : 0 < m) (hi : i < m) (k : Nat) : vis m i k = k / m + if i < k % m then 1 else 0 := by
  induction k with
  | zero => simp [vis]
  | succ k ih =>
    rw [vis, ih]
    have h1 := Nat.div_add_mod k m
    have h2 := Nat.mod_lt k hm
    by_cases c : k % m + 1 = m
    · have e : k + 1 = m * (k / m + 1) := by rw [Nat.mul_add]; omega
      have e1 : (k + 1) / m = k / m + 1 := by rw [e, Nat.mul_div_cancel_left _ hm]
      have e2 : (k + 1) % m = 0 := by rw [e, Nat.mul_mod_right]
      rw [e1, e2]
      by_cases c2 : k % m = i
      · rw [if_pos c2, if_neg (by omega), if_neg (by omega)]
      · rw [if_neg c2, if_pos (by omega), if_neg (by omega)]
    · have e : k + 1 = (k % m + 1) + m * (k / m) := by omega
      have e1 : (k + 1) / m = k / m := by rw [e, Nat.add_mul_div_left _ _ hm, Nat.div_eq_of_lt (by omega), Nat.zero_add]
      have e2 : (k + 1) % m = k % m + 1 := by rw [e, Nat.add_mul_mod_self_left, Nat.mod_eq_of_lt (by omega)]
      rw [e1, e2]
      by_cases c2 : k % m = i
      · rw [if_pos c2, if_neg (by omega), if_pos (by omega)]
      · rw [if_neg c2]
        by_cases c3 : i < k % m
        · rw [if_pos c3, if_pos (by omega)]
        · rw [if_neg c3, if_neg (by omega)]
theorem stT_each (ps : List Nat) (k i : Nat) (hi : i < ps.length) :
    (stT ps k).1.getD i 0 = (trn (ps.getD i 0) (vis ps.length i k)).1 ∧ (stT ps k).2.count i = (trn (ps.getD i 0) (vis ps.length i k)).2 := by
  induction k with
  | zero => simp [stT, vis, trn, List.getD_eq_getElem?_getD, hi]
  | succ k ih =>
    obtain ⟨ih1, ih2⟩ := ih
    simp only [stT, vis]
    by_cases c : k % ps.length = i
    · rw [if_pos c, c, ih1]
      simp only [trn]
      constructor
      · rw [List.getD_eq_getElem?_getD, List.getElem?_set_self (by rw [stT_len]; exact hi)]; rfl
      · by_cases cc : comes (trn (ps.getD i 0) (vis ps.length i k)).1 (ps.getD i 0) = true
        · rw [if_pos cc, if_pos cc, List.count_append, ih2]; simp
        · rw [if_neg cc, if_neg cc, ih2, Nat.add_zero]
    · rw [if_neg c, Nat.add_zero]
      constructor
      · rw [List.getD_eq_getElem?_getD, List.getElem?_set_ne c, ← List.getD_eq_getElem?_getD, ih1]
      · split
        · rw [List.count_append, ih2, List.count_singleton]; simp [c]
        · exact ih2
theorem trn_zero (v : Nat) : trn 0 v = (0, 0) := by
  have h0 : addF 0 0 = 0 := addF_zero (Nat.zero_le _)
  have hp := one_pos
  induction v with
  | zero => rfl
  | succ v ih => rw [trn, ih]; simp only [nextD, comes, h0]; rw [if_pos hp, decide_eq_false (by omega)]; rfl
theorem trn_one (v : Nat) : trn fOne v = (0, v) := by
  have h0 : addF 0 fOne = fOne := addF_zero (Nat.le_refl _)
  induction v with
  | zero => rfl
  | succ v ih => rw [trn, ih]; simp only [nextD, comes, h0, subF_one]; rw [if_neg (by omega), decide_eq_true (Nat.le_refl _)]; rfl
theorem trn_le (p v : Nat) : (trn p v).2 ≤ v := by
  induction v with
  | zero => exact Nat.le_refl _
  | succ v ih => rw [trn]; simp only; split <;> omega
theorem trn_succ (p v : Nat) : (trn p (v + 1)).2 = (trn p v).2 ∨ (trn p (v + 1)).2 = (trn p v).2 + 1 := by
  rw [trn]; simp only; split
  · exact Or.inr rfl
  · exact Or.inl rfl

/-- where one has the whole part, n rounds have at least n turns. -/
theorem stT_rounds {ps : List Nat} {j : Nat} (hj : j < ps.length) (hp : ps.getD j 0 = fOne) (n : Nat) : n ≤ (stT ps (n * ps.length)).2.length := by
  have h := (stT_each ps (n * ps.length) j hj).2
  rw [hp, trn_one, vis_eq (by omega) hj, Nat.mul_div_cancel _ (by omega), Nat.mul_mod_left, if_neg (by omega), Nat.add_zero] at h
  have := List.count_le_length (a := j) (l := (stT ps (n * ps.length)).2)
  omega
/-- one round more has at least one turn more. -/
theorem stT_round {ps : List Nat} {j : Nat} (hj : j < ps.length) (hp : ps.getD j 0 = fOne) (r : Nat) : (stT ps (r * ps.length)).2.length < (stT ps ((r + 1) * ps.length)).2.length := by
  obtain ⟨t, ht⟩ := stT_mono' ps (show r * ps.length ≤ (r + 1) * ps.length from Nat.mul_le_mul_right _ (by omega))
  have h1 := (stT_each ps (r * ps.length) j hj).2
  have h2 := (stT_each ps ((r + 1) * ps.length) j hj).2
  rw [hp, trn_one, vis_eq (by omega) hj, Nat.mul_div_cancel _ (by omega), Nat.mul_mod_left, if_neg (by omega), Nat.add_zero] at h1 h2
  rw [ht, List.count_append] at h2
  have := List.count_le_length (a := j) (l := t)
  rw [ht, List.length_append]
  simp only at h1 h2
  omega
/-- the first n turns. -/
def turnsP (ps : List Nat) (n : Nat) : List Nat := (stT ps (n * ps.length)).2.take n
theorem turnsP_len {ps : List Nat} {j : Nat} (hj : j < ps.length) (hp : ps.getD j 0 = fOne) (n : Nat) : (turnsP ps n).length = n := by
  have := stT_rounds hj hp n
  unfold turnsP; rw [List.length_take]; omega
/-- where n turns have come just now. -/
theorem turnsP_at {ps : List Nat} {j : Nat} (hj : j < ps.length) (hp : ps.getD j 0 = fOne) {n k : Nat} (hk : (stT ps k).2.length = n) : turnsP ps n = (stT ps k).2 := by
  have h := stT_rounds hj hp n
  unfold turnsP
  by_cases c : k ≤ n * ps.length
  · obtain ⟨t, ht⟩ := stT_mono' ps c
    rw [ht, ← hk]; exact List.take_left
  · obtain ⟨t, ht⟩ := stT_mono' ps (show n * ps.length ≤ k by omega)
    have hl := congrArg List.length ht
    rw [List.length_append] at hl
    have : t = [] := List.eq_nil_of_length_eq_zero (by omega)
    rw [this, List.append_nil] at ht
    rw [← ht, ← hk, List.take_length]
/-- some turns are the first of more. -/
theorem turnsP_first {ps : List Nat} {j : Nat} (hj : j < ps.length) (hp : ps.getD j 0 = fOne) (n m : Nat) (h : n ≤ m) : turnsP ps n = (turnsP ps m).take n := by
  have h1 := stT_rounds hj hp n
  obtain ⟨t, ht⟩ := stT_mono' ps (show n * ps.length ≤ m * ps.length from Nat.mul_le_mul_right _ h)
  unfold turnsP
  rw [List.take_take, Nat.min_eq_left h, ht, List.take_append_of_le_length h1]
/-- where n turns have come first. -/
theorem turnsP_step (ps : List Nat) {j : Nat} (hj : j < ps.length) (hp : ps.getD j 0 = fOne) (n : Nat) : ∃ k, turnsP ps n = (stT ps k).2 := by
  have h := stT_rounds hj hp n
  have : ∀ K, n ≤ (stT ps K).2.length → ∃ k, (stT ps k).2.length = n := by
    intro K
    induction K with
    | zero => intro h; exact ⟨0, by simp [stT] at h ⊢; omega⟩
    | succ K ih =>
      intro h
      by_cases c : n ≤ (stT ps K).2.length
      · exact ih c
      · refine ⟨K + 1, ?_⟩
        simp only [stT] at h ⊢
        split at h
        · next hc => rw [if_pos hc]; rw [List.length_append, List.length_singleton] at h ⊢; omega
        · omega
  obtain ⟨k, hk⟩ := this _ h
  exact ⟨k, turnsP_at hj hp hk⟩
end Go.Proofs.Ytjppmalcaogpiaa
