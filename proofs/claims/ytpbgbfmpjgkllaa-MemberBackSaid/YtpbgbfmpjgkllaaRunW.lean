/-
  Words about what Run answers and about pieces that a literal says.
-/
import Derived.Test.YtpbgbfmpjgkllaaRun
namespace Go.Proofs.Ytpbgbfmpjgkllaa
open Go.RowKit

theorem OwnV.shape {w : World} {base : Nat} {vv : Value} {items : List VItem} (h : OwnV w base vv items) :
    ∃ A c, vv = .slice A items.length c ∧ items.length ≤ c ∧ (0 < items.length → ∃ gg, A = some ⟨gg, 0, none⟩ ∧ base ≤ gg ∧ gg < w.heap.size ∧ ∀ j (hj : j < items.length), w.cell? ⟨gg, j * 2, none⟩ = some (.int .u64 (items[j].N : Int)) ∧ w.cell? ⟨gg, j * 2 + 1, none⟩ = some items[j].v) := by
  rcases h.row.2 with ⟨rfl, h0⟩ | ⟨gg, cap, cur, rfl, hb, hg, hn, hm, hsz, ht⟩
  · exact ⟨none, 0, by rw [h0], by omega, fun hp => by omega⟩
  · refine ⟨some ⟨gg, 0, none⟩, cap, rfl, hn, fun _ => ⟨gg, rfl, hb, (Array.getElem?_eq_some_iff.1 hg).1, fun j hj => ?_⟩⟩
    have hc : ∀ i, i < items.length * 2 → w.cell? ⟨gg, i, none⟩ = (itemCells items)[i]? := fun i hi => World.ownsRow.cellAt (g := gg) (cap := cap) h.row i hi
    have hget : ∀ (its : List VItem) (j : Nat) (hj : j < its.length), (itemCells its)[j * 2]? = some (.int .u64 (its[j].N : Int)) ∧ (itemCells its)[j * 2 + 1]? = some its[j].v := by
      intro its
      induction its with
      | nil => intro j hj; simp at hj
      | cons x t ih =>
        intro j hj
        rcases j with _ | j
        · exact ⟨rfl, rfl⟩
        · have := ih j (by simp at hj; omega)
          rw [itemCells, List.flatMap_cons, ← itemCells]
          rw [show (j + 1) * 2 = j * 2 + 2 from by omega, show j * 2 + 2 + 1 = j * 2 + 1 + 2 from by omega]
          simpa using this
    obtain ⟨h1, h2⟩ := hget items j hj
    exact ⟨(hc _ (by omega)).trans h1, (hc _ (by omega)).trans h2⟩

theorem Ops.lit (w : World) (l : List (Int × Int)) (cs : Array Value) (t : TypeId) (fr : Nat × Nat) (hcs : cs = (l.flatMap fun o => [Value.int .i64 o.1, Value.int .i64 o.2]).toArray) : Ops (w.alloc (.cells cs t fr)) (w.heap.size + 1) (some ⟨w.heap.size, 0, none⟩) l := fun _ =>
  ⟨w.heap.size, 0, rfl, Nat.lt_succ_self _, fun i hi => by
    subst hcs
    have hget : ∀ (its : List (Int × Int)) (j : Nat) (hj : j < its.length), (its.flatMap fun o => [Value.int .i64 o.1, Value.int .i64 o.2])[j * 2]? = some (.int .i64 its[j].1) ∧ (its.flatMap fun o => [Value.int .i64 o.1, Value.int .i64 o.2])[j * 2 + 1]? = some (.int .i64 its[j].2) := by
      intro its
      induction its with
      | nil => intro j hj; simp at hj
      | cons x t ih =>
        intro j hj
        rcases j with _ | j
        · exact ⟨rfl, rfl⟩
        · have := ih j (by simp at hj; omega)
          rw [List.flatMap_cons, show (j + 1) * 2 = j * 2 + 2 from by omega, show j * 2 + 2 + 1 = j * 2 + 1 + 2 from by omega]
          simpa using this
    obtain ⟨h1, h2⟩ := hget l i hi
    have hb := heap_alloc_new w (.cells (l.flatMap fun o => [Value.int .i64 o.1, Value.int .i64 o.2]).toArray t fr)
    rw [cell_of_row _ w.heap.size (0 + i * 2) _ t fr hb, cell_of_row _ w.heap.size (0 + i * 2 + 1) _ t fr hb]
    simp only [Nat.zero_add, List.getElem?_toArray]
    exact ⟨h1, h2⟩⟩

theorem Ops.more {w w' : World} {B B' : Nat} {A : Option Addr} {l : List (Int × Int)} (h : Ops w B A l) (hB : B ≤ B') (hb : Below B w w') : Ops w' B' A l := h.keep hB (fun _ hp => hb.cell hp)

end Go.Proofs.Ytpbgbfmpjgkllaa
