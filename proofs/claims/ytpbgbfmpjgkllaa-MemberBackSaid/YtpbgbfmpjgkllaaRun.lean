/-
  The walk of Run: what each piece was, up to the first error, how many bytes were read, that error.
-/
import Derived.Test.YtpbgbfmpjgkllaaCatch
namespace Go.Proofs.Ytpbgbfmpjgkllaa
open Go.RowKit
set_option maxRecDepth 100000

theorem Ops.keep {w w' : World} {B B' : Nat} {A : Option Addr} {l : List (Int × Int)} (h : Ops w B A l) (hB : B ≤ B') (hk : ∀ p : Addr, p.block < B → w'.cell? p = w.cell? p) : Ops w' B' A l := fun hl => by
  obtain ⟨b, off, e, hb, hc⟩ := h hl
  exact ⟨b, off, e, by omega, fun i hi => ⟨(hk _ hb).trans (hc i hi).1, (hk _ hb).trans (hc i hi).2⟩⟩
theorem OwnV.base {w : World} {B B' : Nat} {vv : Value} {items : List VItem} (h : OwnV w B vv items) (hB : B' ≤ B) : OwnV w B' vv items := by
  refine ⟨⟨h.row.1, ?_⟩, fun it hit => (h.each it hit).base hB⟩
  rcases h.row.2 with e | ⟨g, cap, cur, e, hb, rest⟩
  · exact .inl e
  · exact .inr ⟨g, cap, cur, e, Nat.le_trans hB hb, rest⟩
theorem OwnV.drewN {w : World} {B : Nat} {vv : Value} {items : List VItem} (h : OwnV w B vv items) (k : Nat) : OwnV (w.drewN k) B vv items := ⟨h.row, h.each⟩

/-- three variables of a call's own, and a fourth one. -/
theorem four_vars (w : World) (a b : Value) (ds : Array Value) (s t u : TypeId) : ∃ W, W = ((w.alloc (.cells #[a] s)).alloc (.cells ds t)).alloc (.cells #[b] u) ∧ Below w.heap.size w W ∧ W.heap.size = w.heap.size + 3 ∧
    W.heap[w.heap.size]? = some (.cells #[a] s (0, 0)) ∧ W.heap[w.heap.size + 1]? = some (.cells ds t (0, 0)) ∧ W.heap[w.heap.size + 2]? = some (.cells #[b] u (0, 0)) := by
  have h0 := heap_alloc_new w (.cells #[a] s)
  have h1 := heap_alloc_new (w.alloc (.cells #[a] s)) (.cells ds t)
  have h2 := heap_alloc_new ((w.alloc (.cells #[a] s)).alloc (.cells ds t)) (.cells #[b] u)
  refine ⟨_, rfl, (((Below.refl _ _).alloc (Nat.le_refl _) _).alloc (by simp) _).alloc (by simp; omega) _, by simp, ?_, ?_, by simpa using h2⟩
  · rw [Below.heap_alloc _ _ _ (by simp; omega), Below.heap_alloc _ _ _ (by simp)]; exact h0
  · rw [Below.heap_alloc _ _ _ (by simp)]; simpa using h1

/-- what Run's closure leaves, in the words of attempt. -/
def RunS (W4 : World) (g bv : Nat) (A : Option Addr) (n c : Nat) (res : List (Nat × List UInt8) × Nat × Nat) (er : Int) (w' : World) : Prop :=
  er = (res.2.2 : Int) ∧ ∃ vv items, RunInv W4 w' g bv A n c res.2.1 vv items ∧ items.map (fun it => (it.N, it.b)) = res.1

theorem run_stays {W4 w' : World} {g bv : Nat} {A : Option Addr} {n c : Nat} {res : List (Nat × List UInt8) × Nat × Nat} (h : Stays g (RunS W4 g bv A n c res) w') (hgv : g ≠ bv) :
    ∃ vv items, Rd w' g A n c res.2.1 (res.2.2 : Int) ∧ w'.heap[bv]? = some (.cells #[vv] 114 (0, 0)) ∧ OwnV w' W4.heap.size vv items ∧ Fr2 W4 w' g bv ∧ items.map (fun it => (it.N, it.b)) = res.1 := by
  rcases h with ⟨h0, vv, items, hI, hm⟩ | ⟨er, w1, _, ⟨he, vv, items, hI, hm⟩, rfl⟩
  · exact ⟨vv, items, by rw [← h0]; exact hI.rd, hI.box, hI.own, hI.fr, hm⟩
  · subst he
    have hI' := hI.below (w1 := w1.drew) (Below.refl _ _).drew
    have hs := grown_set w1.drew g 2 (.int .i64 (res.2.2 : Int))
    refine ⟨vv, items, hI'.rd.setE _, (Below.heap_setCell _ ⟨g, 2, none⟩ _ bv (by show bv ≠ g; omega)).trans hI'.box, hI'.own.kept hs (own_ne hI'.own.row hI'.rd.blk (by decide)) (fun it hit => own_ne (hI'.own.each it hit) hI'.rd.blk (by decide)), hI'.fr.grown hs (fun i e => by cases e; exact .inr (.inl rfl)), hm⟩

end Go.Proofs.Ytpbgbfmpjgkllaa
