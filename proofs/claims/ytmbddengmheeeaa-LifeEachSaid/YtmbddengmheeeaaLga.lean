/-
  All have said that they have no flow to it just when each one has said so (mathematics).
-/
import Derived.Test.YtmbddengmheeeaaLfu
namespace Go.Proofs.Ytmbddengmheeeaa
open Go.RowKit
set_option linter.unusedVariables false
set_option linter.unusedSimpArgs false

theorem vjoin_none {v : Int × Bool} (h : okVo v = true) : vjoin v (0, false) = v := by
  obtain ⟨s, o⟩ := v
  unfold okVo castB at h
  simp only [Bool.and_eq_true, decide_eq_true_eq] at h
  unfold vjoin vahead
  by_cases e : s = 0
  · subst e
    cases o
    · simp
    · simp at h
  · have : ¬ s < 0 := by omega
    simp [e, this]
theorem joinVo_nil {l : List (Int × Bool)} (h : votesOk l = true) : joinVo l [] = l := by
  unfold votesOk at h
  simp only [Bool.and_eq_true, List.all_eq_true] at h
  apply List.ext_getElem
  · simp [joinVo]
  · intro i h1 h2
    simp only [joinVo, List.getElem_map, List.getElem_range]
    have e1 : voteAt l i = l[i] := by simp [voteAt, List.getD, List.getElem?_eq_getElem h2]
    have e2 : voteAt [] i = (0, false) := by simp [voteAt]
    rw [e1, e2]
    exact vjoin_none (h.2 _ (List.getElem_mem h2))
theorem joinSp_same (s : Spc) : joinSp s s = s := by unfold joinSp; split <;> rfl
theorem okK_pos {k : Kn} (h : okK k = true) (hg : k.g ≠ 0) : okR k = true := by unfold okK at h; rwa [if_neg hg] at h
theorem okK_of {k : Kn} (h : okR k = true) (hg : k.g ≠ 0) : okK k = true := by unfold okK; rwa [if_neg hg]
def withD (k : Kn) (d : Int) : Kn := { k with dn := d }
def bareD (k : Kn) (d : Int) : Kn := { k with vs := [], dn := d }
theorem okR_withD {k : Kn} (h : okR k = true) {m : Nat} (hm : m ≤ 65535) : okR (withD k (m : Int)) = true := by
  have e : okR (withD k (m : Int)) = (decide (k.g > 0) && (decide (k.g ≤ 1099511627776) && (decide (k.l ≥ 1) && (decide (k.l ≤ 3) && (okSp k.sp && (votesOk k.vs && (decide ((m : Int) ≥ 0) && decide ((m : Int) ≤ 65535)))))))) := rfl
  rw [e]
  unfold okR at h
  simp only [Bool.and_eq_true, decide_eq_true_eq] at h ⊢
  obtain ⟨a1, a2, a3, a4, a5, a6, a7, a8⟩ := h
  exact ⟨a1, a2, a3, a4, a5, a6, by omega, by omega⟩
theorem okR_bareD {k : Kn} (h : okR k = true) {m : Nat} (hm : m ≤ 65535) : okR (bareD k (m : Int)) = true := by
  have e : okR (bareD k (m : Int)) = (decide (k.g > 0) && (decide (k.g ≤ 1099511627776) && (decide (k.l ≥ 1) && (decide (k.l ≤ 3) && (okSp k.sp && (votesOk [] && (decide ((m : Int) ≥ 0) && decide ((m : Int) ≤ 65535)))))))) := rfl
  rw [e]
  unfold okR at h
  simp only [Bool.and_eq_true, decide_eq_true_eq] at h ⊢
  obtain ⟨a1, a2, a3, a4, a5, a6, a7, a8⟩ := h
  exact ⟨a1, a2, a3, a4, a5, rfl, by omega, by omega⟩
theorem powG {k : Nat} (hk : k < 16) : 2 ^ k ≤ 32768 := by
  have : 2 ^ k ≤ 2 ^ 15 := Nat.pow_le_pow_right (by decide) (by omega)
  simpa using this
/-- one says so. -/
theorem each_join {x : Kn} (hx : okR x = true) (hg : x.g ≠ 0) {m k : Nat} (hm : m ≤ 65535) (hk : k < 16) :
    joinK (withD x (m : Int)) (bareD x ((2 ^ k : Nat) : Int)) = withD x ((m ||| 2 ^ k : Nat) : Int) ∧ joinE (withD x (m : Int)) (bareD x ((2 ^ k : Nat) : Int)) = 0 := by
  have h2 := powG hk
  have h1 : okK (withD x (m : Int)) = true := okK_of (okR_withD hx hm) hg
  have h3 : okK (bareD x ((2 ^ k : Nat) : Int)) = true := okK_of (okR_bareD hx (by omega)) hg
  have hv : votesOk x.vs = true := by
    unfold okR at hx
    simp only [Bool.and_eq_true] at hx
    exact hx.2.2.2.2.2.1
  unfold joinK joinE
  have hc : okK (withD x (m : Int)) = true ∧ okK (bareD x ((2 ^ k : Nat) : Int)) = true := ⟨h1, h3⟩
  refine ⟨?_, if_pos hc⟩
  rw [if_pos hc, if_pos (show (withD x (m : Int)).g = (bareD x ((2 ^ k : Nat) : Int)).g from rfl)]
  unfold joinKn
  show (⟨x.g, max x.l x.l, joinSp x.sp x.sp, joinVo x.vs [], orI (m : Int) ((2 ^ k : Nat) : Int)⟩ : Kn) = _
  rw [joinSp_same, joinVo_nil hv, orI_nat (by omega) (by omega), Int.max_self]
  rfl
theorem or_ltG {m k n : Nat} (hm : m < 2 ^ n) (hk : k < n) : (m ||| 2 ^ k) < 2 ^ n :=
  Nat.or_lt_two_pow hm (Nat.pow_lt_pow_right (by decide) hk)
/-- bits are what was said. -/
def SaidM (S : List Bool) (m : Nat) : Prop := m < 2 ^ S.length ∧ ∀ j (h : j < S.length), m.testBit j = S[j]
theorem saidM_zero (n : Nat) : SaidM (List.replicate n false) 0 := ⟨Nat.pow_pos (by decide), fun j h => by simp⟩
theorem saidM_set {S : List Bool} {m k : Nat} (h : SaidM S m) (hk : k < S.length) : SaidM (S.set k true) (m ||| 2 ^ k) := by
  refine ⟨by rw [List.length_set]; exact or_ltG h.1 hk, fun j hj => ?_⟩
  rw [List.length_set] at hj
  rw [Nat.testBit_or, h.2 j hj, Nat.testBit_two_pow, List.getElem_set]
  by_cases e : k = j
  · subst e; simp
  · simp [e]
theorem set_same {S : List Bool} {k : Nat} (hk : k < S.length) (h : S[k] = true) : S.set k true = S := by
  apply List.ext_getElem (by simp)
  intro i h1 h2
  rw [List.getElem_set]
  split
  · next e => subst e; exact h.symm
  · rfl
theorem count_set {S : List Bool} {k : Nat} (hk : k < S.length) (h : S[k] = false) : (S.set k true).count false + 1 = S.count false := by
  induction S generalizing k with
  | nil => simp at hk
  | cons a t ih =>
    cases k with
    | zero =>
      simp at h
      subst h
      simp
    | succ k =>
      simp at hk h
      have := ih hk h
      rw [List.set_cons_succ, List.count_cons, List.count_cons]
      omega
theorem count_zero {S : List Bool} : S.count false = 0 ↔ ∀ j (h : j < S.length), S[j] = true := by
  rw [List.count_eq_zero]
  constructor
  · intro h j hj
    cases e : S[j]
    · exact absurd (e ▸ List.getElem_mem hj) h
    · rfl
  · intro h hm
    obtain ⟨j, hj, e⟩ := List.getElem_of_mem hm
    rw [h j hj] at e; cases e
theorem said_full {S : List Bool} {m : Nat} (h : SaidM S m) : (m = 2 ^ S.length - 1) ↔ S.count false = 0 := by
  rw [count_zero]
  constructor
  · intro e j hj
    rw [← h.2 j hj, e, Nat.testBit_two_pow_sub_one]
    simpa using hj
  · intro e
    apply Nat.eq_of_testBit_eq
    intro i
    rw [Nat.testBit_two_pow_sub_one]
    by_cases hi : i < S.length
    · rw [h.2 i hi, e i hi]; simp [hi]
    · have : m < 2 ^ i := Nat.lt_of_lt_of_le h.1 (Nat.pow_le_pow_right (by decide) (by omega))
      rw [Nat.testBit_lt_two_pow this]; simp [hi]
theorem overB_said {S : List Bool} {m : Nat} (h : SaidM S m) (hl : S.length ≤ 16) : overB (m : Int) S.length = decide (S.count false = 0) := by
  have h1 : 2 ^ S.length ≤ 2 ^ 16 := Nat.pow_le_pow_right (by decide) hl
  have h2 := h.1
  have h3 := said_full h
  unfold overB bitsV
  have hp : 0 < 2 ^ S.length := Nat.pow_pos (by decide)
  rw [i64_and_nat _ _ (by omega) (by omega), Nat.and_two_pow_sub_one_eq_mod, Nat.mod_eq_of_lt h2]
  by_cases e : m = 2 ^ S.length - 1
  · rw [decide_eq_true (h3.1 e), e]; simp
  · rw [decide_eq_false (fun hh => e (h3.2 hh))]
    simp only [beq_eq_false_iff_ne, ne_eq, Int.natCast_inj]
    exact e
theorem over_said {x : Kn} (hx : okR x = true) (hg : x.g > 0) {S : List Bool} {m : Nat} (h : SaidM S m) (hl : S.length ≤ 16) (h1 : 1 ≤ S.length) (n : Int) (hn : n = (S.length : Int)) :
    overK (withD x (m : Int)) n = decide (S.count false = 0) := by
  have h2 : 2 ^ S.length ≤ 2 ^ 16 := Nat.pow_le_pow_right (by decide) hl
  have h3 := h.1
  unfold overK knTo
  rw [okK_of (okR_withD hx (by omega)) (show (withD x (m : Int)).g ≠ 0 by show x.g ≠ 0; omega)]
  subst hn
  rw [decide_eq_true (show (S.length : Int) ≥ 1 by omega), decide_eq_true (show (S.length : Int) ≤ 16 by omega), decide_eq_true (show (withD x (m : Int)).g > 0 from hg)]
  simp only [Bool.true_and, Int.toNat_natCast]
  exact overB_said h hl
end Go.Proofs.Ytmbddengmheeeaa
