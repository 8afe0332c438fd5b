/-
  The walk of 'ops': pieces as the program has them, in new memory.
-/
import Derived.Test.YtpbgbfmpjgkllaaKnownC
namespace Go.Proofs.Ytpbgbfmpjgkllaa
open Go.RowKit
set_option maxRecDepth 100000

def opCells (l : List (Int × Int)) : List Value := l.flatMap fun o => [Value.int .i64 o.1, Value.int .i64 o.2]
theorem opCells_snoc (l : List (Int × Int)) (o : Int × Int) : opCells (l ++ [o]) = opCells l ++ [.int .i64 o.1, .int .i64 o.2] := by simp [opCells]
theorem opCells_get : ∀ (l : List (Int × Int)) (j : Nat) (h : j < l.length), (opCells l)[j * 2]? = some (.int .i64 l[j].1) ∧ (opCells l)[j * 2 + 1]? = some (.int .i64 l[j].2)
  | [], j, h => by simp at h
  | x :: t, 0, _ => ⟨rfl, rfl⟩
  | x :: t, j + 1, h => by
    have := opCells_get t j (by simp at h; omega)
    rw [opCells, List.flatMap_cons, ← opCells, show (j + 1) * 2 = j * 2 + 2 from by omega, show j * 2 + 2 + 1 = j * 2 + 1 + 2 from by omega]
    simpa using this
/-- the slice value v owns, from block 'base' on, a row of pieces. -/
def OwnO (w : World) (base : Nat) (v : Value) (l : List (Int × Int)) : Prop := w.ownsRow base 111 2 v l.length (opCells l)
theorem OwnO.shape {w : World} {base : Nat} {v : Value} {l : List (Int × Int)} (h : OwnO w base v l) : ∃ A c, v = .slice A l.length c ∧ Ops w w.heap.size A l ∧ (∀ a, A = some a → base ≤ a.block) := by
  rcases h.2 with ⟨rfl, h0⟩ | ⟨gg, cap, cur, rfl, hb, hg, hn, hm, hsz, ht⟩
  · obtain rfl : l = [] := List.eq_nil_of_length_eq_zero h0
    exact ⟨none, 0, rfl, fun hp => absurd hp (by simp), fun a e => by cases e⟩
  · refine ⟨some ⟨gg, 0, none⟩, cap, rfl, fun _ => ⟨gg, 0, rfl, (Array.getElem?_eq_some_iff.1 hg).1, fun i hi => ?_⟩, fun a e => by cases e; exact hb⟩
    obtain ⟨h1, h2⟩ := opCells_get l i hi
    have hc : ∀ i, i < l.length * 2 → w.cell? ⟨gg, i, none⟩ = (opCells l)[i]? := fun i hi => World.ownsRow.cellAt (g := gg) (cap := cap) h i hi
    rw [Nat.zero_add]
    exact ⟨(hc _ (by omega)).trans h1, (hc _ (by omega)).trans h2⟩

theorem info_op : (Try.prog.info? 111).map (fun i => (i.zero, i.size, i.bytes)) = some (some (.agg #[.int .i64 0, .int .i64 0]), 2, 16) := by kernel_rfl

end Go.Proofs.Ytpbgbfmpjgkllaa
