/-
  The mathematics of OwnerStays, OwnerJoins, OwnerOne. Nothing here speaks of a program's memory.
-/
import Derived.Test.YtlpihjbnfdfbaaaOa
namespace Go.Proofs.Ytlpihjbnfdfbaaa
set_option linter.unusedVariables false

theorem Reps.without {m : List Nat} (h : Reps m) (k : Nat) : Reps (m.take k ++ m.drop (k + 1)) := by
  have hs : (m.take k ++ m.drop (k + 1)).Sublist m := by
    have := List.Sublist.append (List.Sublist.refl (m.take k)) (List.drop_sublist_drop_left m (Nat.le_succ k))
    rwa [List.take_append_drop] at this
  exact ⟨h.up.sublist hs, fun x hx => h.lt x (hs.subset hx)⟩
theorem natI_without (m : List Nat) (k : Nat) : natI (m.take k ++ m.drop (k + 1)) = (natI m).take k ++ (natI m).drop (k + 1) := by simp [natI, List.map_take, List.map_drop]
theorem stays_math {K : Nat → Nat} {m : List Nat} (hm : Reps m) (h2 : 2 ≤ m.length) {k : Nat} (hk : k < m.length) :
    ∃ s0 s1, (sortL K m)[0]? = some s0 ∧ (sortL K m)[1]? = some s1 ∧ (m[k] = s0 → (sortL K (m.take k ++ m.drop (k + 1))).headD 0 = s1) ∧ (m[k] ≠ s0 → (sortL K (m.take k ++ m.drop (k + 1))).headD 0 = s0) := by
  rw [sort_without hm.nodup hk]
  have hl : (sortL K m).length = m.length := sort_len K m
  generalize sortL K m = s at hl ⊢
  match s, hl with
  | [], hl => simp at hl; omega
  | [a], hl => simp at hl; omega
  | a :: b :: t, hl =>
    refine ⟨a, b, rfl, rfl, fun h => ?_, fun h => ?_⟩
    · rw [h, List.erase_cons_head]; rfl
    · rw [List.erase_cons_tail (by simpa using fun e => h e.symm)]; rfl
theorem headD_mem {s : List Nat} (h : 0 < s.length) : s[0]? = some (s.headD 0) := by
  cases s with
  | nil => simp at h
  | cons a t => rfl
theorem bitN_test (m j : Nat) : bitN m j = m.testBit j := by
  rw [Nat.testBit_eq_decide_div_mod_eq]
  unfold bitN; by_cases h : m / 2 ^ j % 2 = 1 <;> simp [h]
theorem bitN_or (a b i : Nat) : bitN (a ||| b) i = (bitN a i || bitN b i) := by rw [bitN_test, bitN_test, bitN_test, Nat.testBit_or]
theorem bitN_pow (a i : Nat) : bitN (2 ^ a) i = decide (i = a) := by
  rw [bitN_test, Nat.testBit_two_pow]
  by_cases h : a = i
  · subst h; simp
  · have : i ≠ a := fun h' => h h'.symm
    simp [h, this]
theorem or_lt16 {a b : Nat} (ha : a < 65536) (hb : b < 65536) : a ||| b < 65536 := Nat.or_lt_two_pow (n := 16) ha hb
theorem pow_lt16 {x : Nat} (hx : x < 16) : 2 ^ x < 65536 := Nat.pow_lt_pow_right (by omega) hx
theorem joins_math {K : Nat → Nat} {n x : Nat} (hx : x < 16) :
    0 < (listM (n ||| 2 ^ x) 16).length ∧
    (listM n 16 = [] → (sortL K (listM (n ||| 2 ^ x) 16)).headD 0 = x) ∧
    (listM n 16 ≠ [] → (sortL K (listM (n ||| 2 ^ x) 16)).headD 0 = (sortL K (listM n 16)).headD 0 ∨ (sortL K (listM (n ||| 2 ^ x) 16)).headD 0 = x) := by
  have hmem : ∀ i, i ∈ listM (n ||| 2 ^ x) 16 ↔ i ∈ listM n 16 ∨ i = x := by
    intro i
    rw [listM_mem, listM_mem, bitN_or, bitN_pow]
    simp only [Bool.or_eq_true, decide_eq_true_eq]
    constructor
    · rintro ⟨h1, h2 | h2⟩
      · exact .inl ⟨h1, h2⟩
      · exact .inr h2
    · rintro (⟨h1, h2⟩ | h2)
      · exact ⟨h1, .inl h2⟩
      · exact ⟨by omega, .inr h2⟩
  have hpos : 0 < (listM (n ||| 2 ^ x) 16).length := List.length_pos_of_mem ((hmem x).2 (.inr rfl))
  have hnd := (listM_reps (n ||| 2 ^ x)).nodup
  have hh := headD_mem (s := sortL K (listM (n ||| 2 ^ x) 16)) (by rw [sort_len]; exact hpos)
  obtain ⟨h1, h2⟩ := sort_head hnd hh
  refine ⟨hpos, fun he => ?_, fun he => ?_⟩
  · rcases (hmem _).1 h1 with h3 | h3
    · rw [he] at h3; cases h3
    · exact h3
  · rcases (hmem _).1 h1 with h3 | h3
    · left
      have h4 := head_sort (K := K) (listM_reps n).nodup h3 fun d hd => h2 d ((hmem d).2 (.inl hd))
      have h5 := headD_mem (s := sortL K (listM n 16)) (by rw [sort_len]; exact List.length_pos_of_mem h3)
      rw [h4] at h5
      exact Option.some.inj h5
    · exact .inr h3
/-- who stands ahead of the two. -/
def ahead (K : Nat → Nat) (x y : Nat) : Nat := if bef K x y = true then x else y
theorem one_mem {n x y : Nat} (hx : x < 16) (hy : y < 16) : x ∈ listM (n ||| (2 ^ x ||| 2 ^ y)) 16 ∧ y ∈ listM (n ||| (2 ^ x ||| 2 ^ y)) 16 := by
  rw [listM_mem, listM_mem, bitN_or, bitN_or, bitN_pow, bitN_pow, bitN_or, bitN_or, bitN_pow, bitN_pow]
  simp [hx, hy]
theorem one_find {K : Nat → Nat} {n x y : Nat} (hx : x < 16) (hy : y < 16) (hxy : x ≠ y) :
    (sortL K (listM (n ||| (2 ^ x ||| 2 ^ y)) 16)).find? (fun c => c == x || c == y) = some (ahead K x y) :=
  find_sort (listM_reps _).nodup hxy (one_mem hx hy).1 (one_mem hx hy).2
theorem find_at : ∀ {s : List Nat} {x y z k : Nat} (h : s.find? (fun c => c == x || c == y) = some z) (hk : k < s.length) (hno : ∀ j (hj : j < k), s[j]'(by omega) ≠ x ∧ s[j]'(by omega) ≠ y) (hat : s[k] = x ∨ s[k] = y), s[k] = z
  | [], x, y, z, k, h, hk, _, _ => by simp at hk
  | a :: t, x, y, z, 0, h, hk, hno, hat => by
    simp only [List.getElem_cons_zero] at hat ⊢
    have hp : (a == x || a == y) = true := by simpa using hat
    rw [List.find?_cons_of_pos (p := fun c => c == x || c == y) hp] at h
    exact Option.some.inj h
  | a :: t, x, y, z, k + 1, h, hk, hno, hat => by
    have h0 := hno 0 (by omega)
    simp only [List.getElem_cons_zero] at h0
    have hp : ¬ ((a == x || a == y) = true) := by simp [h0.1, h0.2]
    rw [List.find?_cons_of_neg (p := fun c => c == x || c == y) hp] at h
    simp only [List.getElem_cons_succ] at hat ⊢
    refine find_at h (by simpa using hk) (fun j hj => ?_) hat
    have := hno (j + 1) (by omega)
    simpa using this
theorem find_some {s : List Nat} {x y z : Nat} (h : s.find? (fun c => c == x || c == y) = some z) (hno : ∀ j (hj : j < s.length), s[j] ≠ x ∧ s[j] ≠ y) : False := by
  have h1 := List.find?_some h
  have h2 := List.mem_of_find?_eq_some h
  obtain ⟨j, hj, rfl⟩ := List.mem_iff_getElem.1 h2
  have := hno j hj
  simp [this.1, this.2] at h1
end Go.Proofs.Ytlpihjbnfdfbaaa
