/-
  The walks of a Reader's Skip and Zero.
-/
import Derived.Test.YtpbgbfmpjgkllaaTk
namespace Go.Proofs.Ytpbgbfmpjgkllaa
open Go.RowKit
set_option maxRecDepth 100000
set_option linter.unusedVariables false

/-- where bytes that are passed over leave a Reader, the error. -/
def skipQ (l : List UInt8) (k : Nat) (er m : Int) : Nat × Int := ((takeQ l k er m).1, (takeQ l k er m).2.2)
theorem two_boxes (w : World) (a b : Value) (s t : TypeId) : ∃ W, W = (w.alloc (.cells #[a] s)).alloc (.cells #[b] t) ∧ Below w.heap.size w W ∧ W.heap.size = w.heap.size + 2 ∧ W.heap[w.heap.size]? = some (.cells #[a] s (0, 0)) ∧ W.heap[w.heap.size + 1]? = some (.cells #[b] t (0, 0)) := by
  have h0 := heap_alloc_new w (.cells #[a] s)
  have h1 := heap_alloc_new (w.alloc (.cells #[a] s)) (.cells #[b] t)
  refine ⟨_, rfl, ((Below.refl _ _).alloc (Nat.le_refl _) _).alloc (by simp) _, by simp, ?_, by simpa using h1⟩
  rw [Below.heap_alloc _ _ _ (by simp)]; exact h0
/-- what the closures of Skip and Zero leave. -/
def SkpS (W : World) (g : Nat) (A : Option Addr) (n c : Nat) (res : Nat × Int) (er : Int) (w' : World) : Prop :=
  er = res.2 ∧ Rd w' g A n c res.1 0 ∧ Fr2 W w' g g
theorem skp_stays {W w' : World} {g : Nat} {A : Option Addr} {n c : Nat} {res : Nat × Int} (h : Stays g (SkpS W g A n c res) w') : Rd w' g A n c res.1 res.2 ∧ Fr2 W w' g g := by
  rcases h with ⟨h0, hr, hf⟩ | ⟨er, w1, _, ⟨he, hr, hf⟩, rfl⟩
  · exact ⟨by rw [← h0]; exact hr, hf⟩
  · subst he
    have hs := grown_set w1.drew g 2 (.int .i64 res.2)
    have hfd : Fr2 W w1.drew g g := ⟨hf.os, hf.tape, hf.output, hf.size, hf.block⟩
    exact ⟨(hr.drewN 1).setE _, hfd.grown hs (fun i e => by cases e; exact .inr (.inl rfl))⟩

end Go.Proofs.Ytpbgbfmpjgkllaa
