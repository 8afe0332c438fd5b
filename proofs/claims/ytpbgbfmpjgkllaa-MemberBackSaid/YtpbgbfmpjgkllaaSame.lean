/-
  The walks of 'told' and 'Same': what was read, in the document's own form; that two such lists are alike.
-/
import Derived.Test.YtpbgbfmpjgkllaaOps
namespace Go.Proofs.Ytpbgbfmpjgkllaa
open Go.RowKit
set_option maxRecDepth 100000

/-- the slice that begins at A reads, below block B, as things that were read. -/
def RdV (w : World) (B : Nat) (A : Option Addr) (items : List VItem) : Prop :=
  0 < items.length → ∃ b off, A = some ⟨b, off, none⟩ ∧ b < B ∧ ∀ i (h : i < items.length), w.cell? ⟨b, off + i * 2, none⟩ = some (.int .u64 (items[i].N : Int)) ∧ w.cell? ⟨b, off + i * 2 + 1, none⟩ = some items[i].v
/-- each of their slices reads as its bytes. -/
def RdB (w : World) (B : Nat) (items : List VItem) : Prop := ∀ it ∈ items, ∃ A c, it.v = .slice A it.b.length c ∧ it.b.length ≤ c ∧ Byt w B A it.b
theorem RdV.keep {w w' : World} {B B' : Nat} {A : Option Addr} {l : List VItem} (h : RdV w B A l) (hB : B ≤ B') (hk : ∀ p : Addr, p.block < B → w'.cell? p = w.cell? p) : RdV w' B' A l := fun hl => by
  obtain ⟨b, off, e, hb, hc⟩ := h hl
  exact ⟨b, off, e, by omega, fun i hi => ⟨(hk _ hb).trans (hc i hi).1, (hk _ hb).trans (hc i hi).2⟩⟩
theorem RdB.keep {w w' : World} {B B' : Nat} {l : List VItem} (h : RdB w B l) (hB : B ≤ B') (hk : ∀ p : Addr, p.block < B → w'.cell? p = w.cell? p) : RdB w' B' l := fun it hit => by
  obtain ⟨A, c, e, hl, hb⟩ := h it hit
  exact ⟨A, c, e, hl, (hb.keep hk).more hB⟩
theorem OwnV.reads {w : World} {base : Nat} {vv : Value} {items : List VItem} (h : OwnV w base vv items) : ∃ A c, vv = .slice A items.length c ∧ RdV w w.heap.size A items ∧ RdB w w.heap.size items := by
  obtain ⟨A, c, e, _, hc⟩ := h.shape
  refine ⟨A, c, e, fun hp => ?_, fun it hit => ?_⟩
  · obtain ⟨gg, e1, _, hlt, hcell⟩ := hc hp
    refine ⟨gg, 0, e1, hlt, fun i hi => ?_⟩
    rw [Nat.zero_add]; exact hcell i hi
  · obtain ⟨A', c', e1, hl, hby, _, _⟩ := (h.each it hit).shape
    exact ⟨A', c', e1, hl, hby⟩

theorem itemCells_snoc (l : List VItem) (o : VItem) : itemCells (l ++ [o]) = itemCells l ++ [.int .u64 (o.N : Int), o.v] := by simp [itemCells]
theorem itemCells_get : ∀ (l : List VItem) (j : Nat) (h : j < l.length), (itemCells l)[j * 2]? = some (.int .u64 (l[j].N : Int)) ∧ (itemCells l)[j * 2 + 1]? = some l[j].v
  | [], j, h => by simp at h
  | x :: t, 0, _ => ⟨rfl, rfl⟩
  | x :: t, j + 1, h => by
    have := itemCells_get t j (by simp at h; omega)
    rw [itemCells, List.flatMap_cons, ← itemCells, show (j + 1) * 2 = j * 2 + 2 from by omega, show j * 2 + 2 + 1 = j * 2 + 1 + 2 from by omega]
    simpa using this
/-- a row of the call's own, of whatever type of two cells, reads as what it holds. -/
theorem row_reads {w : World} {base : Nat} {e : TypeId} {v : Value} {items : List VItem} (h : w.ownsRow base e 2 v items.length (itemCells items)) : ∃ A c, v = .slice A items.length c ∧ RdV w w.heap.size A items := by
  rcases h.2 with ⟨rfl, h0⟩ | ⟨gg, cap, cur, rfl, hb, hg, hn, hm, hsz, ht⟩
  · exact ⟨none, 0, by rw [h0], fun hp => by omega⟩
  · refine ⟨some ⟨gg, 0, none⟩, cap, rfl, fun _ => ⟨gg, 0, rfl, (Array.getElem?_eq_some_iff.1 hg).1, fun i hi => ?_⟩⟩
    obtain ⟨h1, h2⟩ := itemCells_get items i hi
    have hc : ∀ i, i < items.length * 2 → w.cell? ⟨gg, i, none⟩ = (itemCells items)[i]? := fun i hi => World.ownsRow.cellAt (g := gg) (cap := cap) h i hi
    rw [Nat.zero_add]
    exact ⟨(hc _ (by omega)).trans h1, (hc _ (by omega)).trans h2⟩

theorem info_rval : (Try.prog.info? 92).map (fun i => (i.zero, i.size, i.bytes)) = some (some (.agg #[.int .u64 0, .slice none 0 0]), 2, 32) := by kernel_rfl

end Go.Proofs.Ytpbgbfmpjgkllaa
