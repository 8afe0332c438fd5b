/-
  The walks of a Reader's Take, Skip and Zero, of Num behind an error, of At; and of all of them where there is no Reader.
-/
import Derived.Test.YtpbgbfmpjgkllaaRt
namespace Go.Proofs.Ytpbgbfmpjgkllaa
open Go.RowKit
set_option maxRecDepth 100000
set_option linter.unusedVariables false

theorem take_cases (l : List UInt8) (k : Nat) (m : Int) : (∃ j : Nat, m = (j : Int) ∧ (j : Int) ≤ (l.length : Int) - k ∧ takeQ l k 0 m = (k + j, (l.drop k).take j, 0)) ∨ (m < 0 ∧ takeQ l k 0 m = (k, [], 1)) ∨ (0 ≤ m ∧ (l.length : Int) - k < m ∧ takeQ l k 0 m = (k, [], 10)) := by
  unfold takeQ fitE
  by_cases h0 : m < 0
  · refine .inr (.inl ⟨h0, ?_⟩)
    simp [show ¬ 0 ≤ m by omega]
  · by_cases h1 : m ≤ (l.length : Int) - k
    · refine .inl ⟨m.toNat, by omega, by omega, ?_⟩
      simp [show 0 ≤ m by omega, show ¬ ((l.length : Int) - k < m) by omega]
    · refine .inr (.inr ⟨by omega, by omega, ?_⟩)
      simp [show 0 ≤ m by omega, show ((l.length : Int) - k < m) by omega]
theorem zero_cases (l : List UInt8) (k : Nat) (m : Int) : (∃ j : Nat, m = (j : Int) ∧ (j : Int) ≤ (l.length : Int) - k ∧ zeroQ l k 0 m = if ((l.drop k).take j).all (fun x => x == 0) = true then (k + j, 0) else (k, 11)) ∨ (m < 0 ∧ zeroQ l k 0 m = (k, 1)) ∨ (0 ≤ m ∧ (l.length : Int) - k < m ∧ zeroQ l k 0 m = (k, 10)) := by
  unfold zeroQ fitE
  by_cases h0 : m < 0
  · refine .inr (.inl ⟨h0, ?_⟩)
    simp [show ¬ 0 ≤ m by omega]
  · by_cases h1 : m ≤ (l.length : Int) - k
    · refine .inl ⟨m.toNat, by omega, by omega, ?_⟩
      simp [show 0 ≤ m by omega, show ¬ ((l.length : Int) - k < m) by omega]
    · refine .inr (.inr ⟨by omega, by omega, ?_⟩)
      simp [show 0 ≤ m by omega, show ((l.length : Int) - k < m) by omega]

/-- what the closure of Take leaves. -/
def TakS (W : World) (g b2 : Nat) (A : Option Addr) (n c : Nat) (res : Nat × List UInt8 × Int) (er : Int) (w' : World) : Prop :=
  er = res.2.2 ∧ Rd w' g A n c res.1 0 ∧ (∃ v, w'.heap[b2]? = some (.cells #[v] 53 (0, 0)) ∧ OwnB w' W.heap.size v res.2.1) ∧ Fr2 W w' g b2
theorem tak_stays {W w' : World} {g b2 : Nat} {A : Option Addr} {n c : Nat} {res : Nat × List UInt8 × Int} (h : Stays g (TakS W g b2 A n c res) w') (hgv : g ≠ b2) :
    Rd w' g A n c res.1 res.2.2 ∧ (∃ v, w'.heap[b2]? = some (.cells #[v] 53 (0, 0)) ∧ OwnB w' W.heap.size v res.2.1) ∧ Fr2 W w' g b2 := by
  rcases h with ⟨h0, hr, hv, hf⟩ | ⟨er, w1, _, ⟨he, hr, ⟨v, hv, ho⟩, hf⟩, rfl⟩
  · exact ⟨by rw [← h0]; exact hr, hv, hf⟩
  · subst he
    have hs := grown_set w1.drew g 2 (.int .i64 res.2.2)
    have hfd : Fr2 W w1.drew g b2 := ⟨hf.os, hf.tape, hf.output, hf.size, hf.block⟩
    exact ⟨(hr.drewN 1).setE _, ⟨v, (Below.heap_setCell _ ⟨g, 2, none⟩ _ b2 (by show b2 ≠ g; omega)).trans hv, (ho.drewN 1).kept hs (own_ne ho (hr.drewN 1).blk (by decide))⟩, hfd.grown hs (fun i e => by cases e; exact .inr (.inl rfl))⟩

end Go.Proofs.Ytpbgbfmpjgkllaa
