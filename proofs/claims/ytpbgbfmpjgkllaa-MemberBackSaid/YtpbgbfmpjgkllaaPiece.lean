/-
  The walk of a Reader's piece of whatever kind: what it was, or the error by which it gives up.
-/
import Derived.Test.YtpbgbfmpjgkllaaPe
namespace Go.Proofs.Ytpbgbfmpjgkllaa
open Go.RowKit
set_option maxRecDepth 100000

/-- what a piece is: a number, bytes, how many were read; or the error by which it gives up. -/
inductive PRes where
  | got (N : Nat) (b : List UInt8) (m : Nat)
  | gave (er : Nat)

def pieceS (l : List UInt8) (k : Nat) (kd sz : Int) : PRes :=
  if kd = 0 then (if 1 ≤ sz ∧ sz ≤ 8 then (if sz ≤ (l.length : Int) - k then .got (numS ((l.drop k).take sz.toNat)) [] sz.toNat else .gave 10) else .gave 1)
  else if kd = 1 then (if sz < 0 then .gave 1 else if sz ≤ (l.length : Int) - k then .got 0 ((l.drop k).take sz.toNat) sz.toNat else .gave 10)
  else if kd = 2 then (if sz < 0 then .gave 1 else if sz ≤ (l.length : Int) - k then .got 0 [] sz.toNat else .gave 10)
  else if kd = 3 then (if sz < 0 then .gave 1 else if sz ≤ (l.length : Int) - k then (if ((l.drop k).take sz.toNat).all (fun x => x == 0) = true then .got 0 [] sz.toNat else .gave 11) else .gave 10)
  else if kd = 4 then (if sz = 0 then .got 0 (l.drop k) (l.length - k) else .gave 1)
  else .gave 1

theorem allZero_iff (r : List UInt8) : AllZero r ↔ r.all (fun x => x == 0) = true := by
  rw [List.all_eq_true]
  constructor
  · intro h x hx
    obtain ⟨i, hi, rfl⟩ := List.getElem_of_mem hx
    simp [h i hi]
  · intro h i hi
    simpa using h r[i] (List.getElem_mem hi)

def PiecePost (w : World) (g : Nat) (A : Option Addr) (l : List UInt8) (c k : Nat) (er : Int) : PRes → Ending → World → Prop
  | .got N b m, e, w' => (∃ v, e = .returned (.agg #[.int .u64 (N : Int), v]) ∧ OwnB w' w.heap.size v b) ∧ Rd w' g A l.length c (k + m) er ∧ w.grownBy w' (some g)
  | .gave er', e, w' => e = giveUp er' ∧ Below w.heap.size w w'

/-- the world behind a piece's two variables: the piece itself, and what it was. -/
theorem two_vars (w : World) (cs ds : Array Value) (t u : TypeId) : ∃ W, W = (w.alloc (.cells cs t)).alloc (.cells ds u) ∧ Below w.heap.size w W ∧ W.heap.size = w.heap.size + 2 ∧ W.heap[w.heap.size + 1]? = some (.cells ds u (0, 0)) := by
  refine ⟨_, rfl, ((Below.refl _ _).alloc (Nat.le_refl _) _).alloc (by simp) _, by simp, ?_⟩
  have := heap_alloc_new (w.alloc (.cells cs t)) (.cells ds u)
  simpa using this

/-- a block of two cells, both written: what it holds then, and that a Reader and all that was there are as they were. -/
theorem two_set {w1 : World} {G : Nat} {x y : Value} {t : TypeId} (h : w1.heap[G]? = some (.cells #[x, y] t (0, 0))) (a b : Value) :
    ((w1.setCell ⟨G, 0, none⟩ a).setCell ⟨G, 1, none⟩ b).cell? ⟨G, 0, none⟩ = some a ∧ ((w1.setCell ⟨G, 0, none⟩ a).setCell ⟨G, 1, none⟩ b).cell? ⟨G, 1, none⟩ = some b ∧
    ∀ {w W : World} {g : Nat} {A : Option Addr} {n c k : Nat} {er : Int}, w.grownBy W (some g) → W.grownBy w1 (some g) → Rd w1 g A n c k er → g ≠ G → w.heap.size ≤ G →
      Rd ((w1.setCell ⟨G, 0, none⟩ a).setCell ⟨G, 1, none⟩ b) g A n c k er ∧ w.grownBy ((w1.setCell ⟨G, 0, none⟩ a).setCell ⟨G, 1, none⟩ b) (some g) := by
  have h1 : (w1.setCell ⟨G, 0, none⟩ a).heap[G]? = some (.cells #[a, y] t (0, 0)) := heap_setCell_same w1 G 0 _ _ _ h
  have h2 : ((w1.setCell ⟨G, 0, none⟩ a).setCell ⟨G, 1, none⟩ b).heap[G]? = some (.cells #[a, b] t (0, 0)) := heap_setCell_same _ G 1 _ _ _ h1
  refine ⟨cell_of_row _ G 0 _ _ (0, 0) h2, cell_of_row _ G 1 _ _ (0, 0) h2, fun {w W g A n c k er} hw hg hR hne hG => ⟨?_, ?_⟩⟩
  · exact hR.kept ((Below.heap_setCell _ ⟨G, 1, none⟩ b g (by exact hne)).trans (Below.heap_setCell _ ⟨G, 0, none⟩ a g (by exact hne)))
  · have h12 := grown_trans hw hg
    refine ⟨h12.os, h12.tape, h12.output, by simpa using h12.size, fun i hi hr => ?_⟩
    rw [Below.heap_setCell _ ⟨G, 1, none⟩ b i (by show i ≠ G; omega), Below.heap_setCell _ ⟨G, 0, none⟩ a i (by show i ≠ G; omega)]
    exact h12.block i hi hr

theorem OwnB.base {w : World} {B B' : Nat} {v : Value} {l : List UInt8} (h : OwnB w B v l) (hB : B' ≤ B) : OwnB w B' v l := by
  refine ⟨h.1, ?_⟩
  rcases h.2 with e | ⟨g, cap, cur, e, hb, rest⟩
  · exact .inl e
  · exact .inr ⟨g, cap, cur, e, Nat.le_trans hB hb, rest⟩
theorem OwnB.two_set {w : World} {B G : Nat} {v a b : Value} {l : List UInt8} (h : OwnB w B v l) (hG : G < B) : OwnB ((w.setCell ⟨G, 0, none⟩ a).setCell ⟨G, 1, none⟩ b) B v l := by
  have hne : v.ownBlock = none ∨ v.ownBlock ≠ some G := by
    rcases h.2 with ⟨e, _⟩ | ⟨g', cap, cur, e, hbg, _⟩
    · exact .inl (by rw [e]; rfl)
    · exact .inr (by rw [e]; simp [Value.ownBlock]; omega)
  exact (h.kept (grown_set w G 0 a) hne).kept (grown_set _ G 1 b) hne

end Go.Proofs.Ytpbgbfmpjgkllaa
