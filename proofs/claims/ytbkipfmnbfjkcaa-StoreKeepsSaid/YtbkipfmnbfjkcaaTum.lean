/-
  Words for tuples: the other way round, and the laws of their order.
-/
import Derived.Test.YtbkipfmnbfjkcaaTup
import Derived.Test.YtbkipfmnbfjkcaaTul
namespace Go.Proofs.Ytbkipfmnbfjkcaa
open Go.RowKit
set_option linter.unusedVariables false

/-- the other way round. -/
def turnT (t : Tup) : Tup := ⟨t.dv, t.db, t.sv, t.sb, t.p, t.d, t.s⟩
theorem turnT_turnT (t : Tup) : turnT (turnT t) = t := rfl
theorem rightT_turnT (t : Tup) : rightT (turnT t) = rightT t := by
  unfold rightT turnT
  rw [Bool.eq_iff_iff]
  simp only [Bool.and_eq_true, beq_iff_eq]
  constructor
  · rintro ⟨⟨⟨⟨⟨a, b⟩, c⟩, d⟩, e⟩, f⟩; exact ⟨⟨⟨⟨⟨b, a⟩, c.symm⟩, d⟩, f⟩, e⟩
  · rintro ⟨⟨⟨⟨⟨a, b⟩, c⟩, d⟩, e⟩, f⟩; exact ⟨⟨⟨⟨⟨b, a⟩, c.symm⟩, d⟩, f⟩, e⟩
theorem Tup.ext' {t u : Tup} (h1 : t.sv = u.sv ∧ t.sb = u.sb) (h2 : t.dv = u.dv ∧ t.db = u.db) (h3 : t.p = u.p) (h4 : t.s = u.s) (h5 : t.d = u.d) : t = u := by
  cases t; cases u; simp_all
theorem lessT_irrefl (t : Tup) : lessT t t = false := by
  unfold lessT
  rw [if_pos rfl, if_pos ⟨rfl, rfl⟩, if_pos ⟨rfl, rfl⟩, if_pos rfl]
  exact decide_eq_false (by omega)
theorem swap2 {a b : Bool} {l m : List UInt8} (h : ¬ (a = b ∧ l = m)) : ¬ (b = a ∧ m = l) := fun ⟨x, y⟩ => h ⟨x.symm, y.symm⟩
theorem int_total {a b : Int} (h : a ≠ b) : decide (a < b) = !decide (b < a) := by
  by_cases h1 : a < b
  · rw [decide_eq_true h1, decide_eq_false (by omega)]; rfl
  · rw [decide_eq_false h1, decide_eq_true (by omega)]; rfl
theorem lessT_total {t u : Tup} (hs : t.sb.length = u.sb.length) (hd : t.db.length = u.db.length) (h : t ≠ u) : lessT t u = !lessT u t := by
  unfold lessT
  by_cases hp : t.p = u.p
  · rw [if_pos hp, if_pos hp.symm]
    by_cases h1 : t.sv = u.sv ∧ t.sb = u.sb
    · have h1s : u.sv = t.sv ∧ u.sb = t.sb := ⟨h1.1.symm, h1.2.symm⟩
      rw [if_pos h1, if_pos h1s]
      by_cases h2 : t.dv = u.dv ∧ t.db = u.db
      · have h2s : u.dv = t.dv ∧ u.db = t.db := ⟨h2.1.symm, h2.2.symm⟩
        rw [if_pos h2, if_pos h2s]
        by_cases h3 : t.s = u.s
        · rw [if_pos h3, if_pos h3.symm]
          exact int_total (fun h4 => h (Tup.ext' h1 h2 hp h3 h4))
        · rw [if_neg h3, if_neg (Ne.symm h3)]
          exact int_total h3
      · rw [if_neg h2, if_neg (swap2 h2)]
        exact lessA_total hd h2
    · rw [if_neg h1, if_neg (swap2 h1)]
      exact lessA_total hs h1
  · rw [if_neg hp, if_neg (Ne.symm hp)]
    exact int_total hp
theorem lessT_trans {t u r : Tup} (h1 : lessT t u = true) (h2 : lessT u r = true) : lessT t r = true := by
  unfold lessT at h1 h2 ⊢
  by_cases p1 : t.p = u.p
  · by_cases p2 : u.p = r.p
    · rw [if_pos p1] at h1
      rw [if_pos p2] at h2
      rw [if_pos (p1.trans p2)]
      by_cases s1 : t.sv = u.sv ∧ t.sb = u.sb
      · by_cases s2 : u.sv = r.sv ∧ u.sb = r.sb
        · rw [if_pos s1] at h1
          rw [if_pos s2] at h2
          rw [if_pos ⟨s1.1.trans s2.1, s1.2.trans s2.2⟩]
          by_cases d1 : t.dv = u.dv ∧ t.db = u.db
          · by_cases d2 : u.dv = r.dv ∧ u.db = r.db
            · rw [if_pos d1] at h1
              rw [if_pos d2] at h2
              rw [if_pos ⟨d1.1.trans d2.1, d1.2.trans d2.2⟩]
              split at h1 <;> split at h2 <;> split <;> simp only [decide_eq_true_eq] at h1 h2 ⊢ <;> omega
            · rw [if_neg d2] at h2
              rw [if_neg (fun e => d2 ⟨d1.1.symm.trans e.1, d1.2.symm.trans e.2⟩), d1.1, d1.2]
              exact h2
          · rw [if_neg d1] at h1
            by_cases d2 : u.dv = r.dv ∧ u.db = r.db
            · rw [if_neg (fun e => d1 ⟨e.1.trans d2.1.symm, e.2.trans d2.2.symm⟩), ← d2.1, ← d2.2]
              exact h1
            · rw [if_neg d2] at h2
              have h3 := lessA_trans h1 h2
              rw [if_neg (fun e => by rw [e.1, e.2, lessA_irrefl] at h3; cases h3)]
              exact h3
        · rw [if_neg s2] at h2
          rw [if_neg (fun e => s2 ⟨s1.1.symm.trans e.1, s1.2.symm.trans e.2⟩), s1.1, s1.2]
          exact h2
      · rw [if_neg s1] at h1
        by_cases s2 : u.sv = r.sv ∧ u.sb = r.sb
        · rw [if_neg (fun e => s1 ⟨e.1.trans s2.1.symm, e.2.trans s2.2.symm⟩), ← s2.1, ← s2.2]
          exact h1
        · rw [if_neg s2] at h2
          have h3 := lessA_trans h1 h2
          rw [if_neg (fun e => by rw [e.1, e.2, lessA_irrefl] at h3; cases h3)]
          exact h3
    · rw [if_neg p2] at h2
      rw [p1, if_neg p2]
      exact h2
  · rw [if_neg p1] at h1
    have h1' := of_decide_eq_true h1
    by_cases p2 : u.p = r.p
    · rw [← p2, if_neg p1]; exact h1
    · rw [if_neg p2] at h2
      have h2' := of_decide_eq_true h2
      rw [if_neg (by omega)]
      exact decide_eq_true (by omega)
theorem TuV.mk' {t : Tup} (h1 : t.sb.length = 16) (h2 : t.db.length = 16) : TuV (tupL t).toArray t := ⟨rfl, h1, h2⟩
end Go.Proofs.Ytbkipfmnbfjkcaa
