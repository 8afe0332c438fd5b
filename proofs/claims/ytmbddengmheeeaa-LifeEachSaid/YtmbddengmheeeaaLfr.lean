/-
  What is known together: the same whichever comes first, however it is put together (mathematics).
-/
import Derived.Test.YtmbddengmheeeaaLfp
namespace Go.Proofs.Ytmbddengmheeeaa
open Go.RowKit
set_option linter.unusedVariables false
set_option linter.unusedSimpArgs false

/-- one order of all that are so. -/
structure STO {α : Type} (P : α → Prop) (lt : α → α → Bool) : Prop where
  irr : ∀ a, P a → lt a a = false
  tr : ∀ a b c, P a → P b → P c → lt a b = true → lt b c = true → lt a c = true
  tot : ∀ a b, P a → P b → lt a b = false → lt b a = false → a = b
def mxO {α : Type} (lt : α → α → Bool) (a b : α) : α := if lt a b = true then b else a
section
variable {α : Type} {P : α → Prop} {lt : α → α → Bool}
theorem mxO_P {a b : α} (ha : P a) (hb : P b) : P (mxO lt a b) := by unfold mxO; split <;> assumption
theorem mxO_self (h : STO P lt) {a : α} (ha : P a) : mxO lt a a = a := by unfold mxO; split <;> rfl
theorem mxO_comm (h : STO P lt) {a b : α} (ha : P a) (hb : P b) : mxO lt a b = mxO lt b a := by
  unfold mxO
  cases h1 : lt a b <;> cases h2 : lt b a
  · simpa using h.tot a b ha hb h1 h2
  · simp
  · simp
  · have := h.tr a b a ha hb ha h1 h2
    rw [h.irr a ha] at this; cases this
theorem mxO_assoc (h : STO P lt) {a b c : α} (ha : P a) (hb : P b) (hc : P c) : mxO lt (mxO lt a b) c = mxO lt a (mxO lt b c) := by
  unfold mxO
  cases h1 : lt a b <;> cases h2 : lt b c
  · have h3 : lt a c = false := by
      cases h3 : lt a c
      · rfl
      · cases h4 : lt b a
        · have e := h.tot a b ha hb h1 h4
          subst e
          rw [h3] at h2; cases h2
        · have := h.tr b a c hb ha hc h4 h3
          rw [h2] at this; cases this
    simp [h1, h3]
  · simp [h2]
  · simp [h1, h2]
  · have h3 := h.tr a b c ha hb hc h1 h2
    simp [h2, h3]
/-- each is at most the greatest. -/
theorem mxO_top (h : STO P lt) {a b : α} (ha : P a) (hb : P b) : mxO lt a (mxO lt a b) = mxO lt a b := by
  rw [← mxO_assoc h ha ha hb, mxO_self h ha]
end
theorem STO.lex {α β : Type} [DecidableEq α] {P : α → Prop} {Q : β → Prop} {l1 : α → α → Bool} {l2 : β → β → Bool} (h1 : STO P l1) (h2 : STO Q l2) :
    STO (fun x : α × β => P x.1 ∧ Q x.2) (fun x y => if x.1 = y.1 then l2 x.2 y.2 else l1 x.1 y.1) := by
  refine ⟨fun a ha => ?_, fun a b c ha hb hc e1 e2 => ?_, fun a b ha hb e1 e2 => ?_⟩
  · rw [if_pos rfl]; exact h2.irr _ ha.2
  · obtain ⟨a1, a2⟩ := a
    obtain ⟨b1, b2⟩ := b
    obtain ⟨c1, c2⟩ := c
    simp only at e1 e2 ha hb hc ⊢
    by_cases x : a1 = b1
    · subst x
      rw [if_pos rfl] at e1
      by_cases y : a1 = c1
      · subst y
        rw [if_pos rfl] at e2 ⊢
        exact h2.tr _ _ _ ha.2 hb.2 hc.2 e1 e2
      · rw [if_neg y] at e2 ⊢; exact e2
    · rw [if_neg x] at e1
      by_cases y : b1 = c1
      · subst y
        rw [if_neg x]; exact e1
      · rw [if_neg y] at e2
        have e3 := h1.tr _ _ _ ha.1 hb.1 hc.1 e1 e2
        by_cases z : a1 = c1
        · subst z
          rw [h1.irr _ ha.1] at e3; cases e3
        · rw [if_neg z]; exact e3
  · obtain ⟨a1, a2⟩ := a
    obtain ⟨b1, b2⟩ := b
    simp only at e1 e2 ha hb ⊢
    by_cases x : a1 = b1
    · subst x
      rw [if_pos rfl] at e1 e2
      rw [h2.tot _ _ ha.2 hb.2 e1 e2]
    · rw [if_neg x] at e1
      rw [if_neg (fun e => x e.symm)] at e2
      exact absurd (h1.tot _ _ ha.1 hb.1 e1 e2) x
theorem STO.int : STO (fun _ : Int => True) (fun a b => decide (a < b)) :=
  ⟨fun a _ => by simp, fun a b c _ _ _ h1 h2 => by simp at *; omega, fun a b _ _ h1 h2 => by simp at *; omega⟩
theorem STO.boo : STO (fun _ : Bool => True) (fun a b => !a && b) :=
  ⟨fun a _ => by cases a <;> rfl, fun a b c _ _ _ h1 h2 => by revert h1 h2; cases a <;> cases b <;> cases c <;> simp, fun a b _ _ h1 h2 => by revert h1 h2; cases a <;> cases b <;> simp⟩
theorem STO.oob : STO (fun _ : Bool => True) (fun a b => a && !b) :=
  ⟨fun a _ => by cases a <;> rfl, fun a b c _ _ _ h1 h2 => by revert h1 h2; cases a <;> cases b <;> cases c <;> simp, fun a b _ _ h1 h2 => by revert h1 h2; cases a <;> cases b <;> simp⟩
theorem STO.byt : STO (fun l : List UInt8 => l.length = 16) lexLt :=
  ⟨fun a _ => lexLt_irrefl a, fun a b c _ _ _ => lexLt_trans a b c, fun a b ha hb h1 h2 => by
    by_cases e : a = b
    · exact e
    · have := lexLt_total a b (by rw [ha, hb]) e
      rw [h1, h2] at this; cases this⟩
/-- of votes. -/
theorem sto_vote : STO (fun _ : Int × Bool => True ∧ True) vahead := by
  have h := STO.lex STO.int STO.oob
  have e : (fun x y : Int × Bool => if x.1 = y.1 then (x.2 && !y.2) else decide (x.1 < y.1)) = vahead := by funext x y; rfl
  rw [← e]; exact h
theorem vjoin_mx (a b : Int × Bool) : vjoin a b = mxO vahead a b := rfl
/-- of places. -/
def keyS (s : Spc) : Int × Int × (Bool × List UInt8) × Int := (s.st, s.by_, (s.av, s.ab), posF s.wt)
def ltK : (Int × Int × (Bool × List UInt8) × Int) → (Int × Int × (Bool × List UInt8) × Int) → Bool :=
  fun x y => if x.1 = y.1 then (if x.2.1 = y.2.1 then (if x.2.2.1 = y.2.2.1 then decide (x.2.2.2 < y.2.2.2) else (if x.2.2.1.1 = y.2.2.1.1 then lexLt x.2.2.1.2 y.2.2.1.2 else (!x.2.2.1.1 && y.2.2.1.1))) else decide (x.2.1 < y.2.1)) else decide (x.1 < y.1)
def okKy (x : Int × Int × (Bool × List UInt8) × Int) : Prop := x.2.2.1.2.length = 16
theorem sto_key : STO okKy ltK := by
  have h := STO.lex STO.int (STO.lex STO.int (STO.lex (STO.lex STO.boo STO.byt) STO.int))
  refine ⟨fun a ha => h.irr a ?_, fun a b c ha hb hc => h.tr a b c ?_ ?_ ?_, fun a b ha hb => h.tot a b ?_ ?_⟩ <;> exact ⟨trivial, trivial, ⟨trivial, by assumption⟩, trivial⟩
theorem ahead_key (s t : Spc) : spAhead s t = ltK (keyS s) (keyS t) := by
  unfold spAhead ltK keyS adEq lessA lessB
  by_cases h1 : s.st = t.st
  · by_cases h2 : s.by_ = t.by_
    · simp only [h1, h2, if_true]
      by_cases h3 : s.av = t.av
      · by_cases h4 : s.ab = t.ab
        · simp [h3, h4]
        · simp [h3, h4]
      · have : s.av = !t.av := by revert h3; cases s.av <;> cases t.av <;> simp
        simp [h3, this]
    · simp [h1, h2]
  · simp [h1]
theorem key_join (s t : Spc) : keyS (joinSp s t) = mxO ltK (keyS s) (keyS t) := by
  unfold joinSp mxO; rw [ahead_key]; split <;> rfl
theorem same_key (s t : Spc) : sameSp s t = decide (keyS s = keyS t) := by
  unfold sameSp keyS sameB
  rw [Bool.eq_iff_iff]
  simp only [Bool.and_eq_true, decide_eq_true_eq, beq_iff_eq, Prod.mk.injEq]
  constructor
  · rintro ⟨h1, h2, h3, h4, h5⟩; exact ⟨h2, h3, ⟨h4, h5⟩, h1⟩
  · rintro ⟨h2, h3, ⟨h4, h5⟩, h1⟩; exact ⟨h1, h2, h3, h4, h5⟩
end Go.Proofs.Ytmbddengmheeeaa
