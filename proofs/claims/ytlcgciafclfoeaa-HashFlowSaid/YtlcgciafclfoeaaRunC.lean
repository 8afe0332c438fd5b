/-
  The walk of the closure that Run hands on: piece after piece, up to the first error.
-/
import Derived.Test.YtlcgciafclfoeaaPany
import Derived.Deep.RegionHeld3
import Derived.Deep.AppendLies
namespace Go.Proofs.Ytlcgciafclfoeaa
open Go.RowKit
set_option maxRecDepth 100000

/-- what pieces are, how many bytes were read, the error (0: none). -/
def runS (l : List UInt8) : List (Int × Int) → Nat → List (Nat × List UInt8) × Nat × Nat
  | [], k => ([], k, 0)
  | (kd, sz) :: t, k =>
    match pieceS l k kd sz with
    | .gave er => ([], k, er)
    | .got N b m => ((N, b) :: (runS l t (k + m)).1, (runS l t (k + m)).2)

/-- the slice that begins at A reads, below block B, as pieces. -/
def Ops (w : World) (B : Nat) (A : Option Addr) (l : List (Int × Int)) : Prop :=
  0 < l.length → ∃ b off, A = some ⟨b, off, none⟩ ∧ b < B ∧ ∀ i (h : i < l.length), w.cell? ⟨b, off + i * 2, none⟩ = some (.int .i64 l[i].1) ∧ w.cell? ⟨b, off + i * 2 + 1, none⟩ = some (.int .i64 l[i].2)

/-- one thing that was read: its number, its slice, the bytes that it holds. -/
structure VItem where
  N : Nat
  v : Value
  b : List UInt8
def itemCells (l : List VItem) : List Value := l.flatMap fun it => [.int .u64 (it.N : Int), it.v]
/-- the slice value vv owns, from block 'base' on, a row of things that were read. -/
structure OwnV (w : World) (base : Nat) (vv : Value) (l : List VItem) : Prop where
  row : w.ownsRow base 61 2 vv l.length (itemCells l)
  each : ∀ it ∈ l, OwnB w base it.v it.b

theorem info_val : (Try.prog.info? 61).map (fun i => (i.zero, i.size, i.bytes)) = some (some (.agg #[.int .u64 0, .slice none 0 0]), 2, 32) := by kernel_rfl

theorem one_cell {w : World} {b : Nat} {v : Value} {t : TypeId} (h : w.heap[b]? = some (.cells #[v] t (0, 0))) : w.cell? ⟨b, 0, none⟩ = some v := cell_of_row w b 0 _ _ (0, 0) h
theorem two_cells (w : World) (a b : Value) (t : TypeId) : (w.alloc (.cells #[a, b] t)).cell? ⟨w.heap.size, 0, none⟩ = some a ∧ (w.alloc (.cells #[a, b] t)).cell? ⟨w.heap.size, 1, none⟩ = some b :=
  ⟨cell_of_row _ _ 0 _ _ (0, 0) (heap_alloc_new w _), cell_of_row _ _ 1 _ _ (0, 0) (heap_alloc_new w _)⟩
theorem own_ne {w : World} {base g n s : Nat} {e t : TypeId} {v : Value} {xs : List Value} {cs : Array Value} {fr : Nat × Nat} (h : w.ownsRow base e s v n xs) (hb : w.heap[g]? = some (.cells cs t fr)) (hne : e ≠ t) : v.ownBlock = none ∨ v.ownBlock ≠ some g := by
  rcases h.2 with ⟨e1, _⟩ | ⟨g', cap, cur, e1, _, hh, _⟩
  · exact .inl (by rw [e1]; rfl)
  · refine .inr ?_
    rw [e1]
    simp only [Value.ownBlock, ne_eq, Option.some.injEq]
    intro e2
    rw [e2, hb] at hh
    injection hh with hh
    injection hh with _ h2
    exact hne h2.symm
theorem own_own_ne {w : World} {base base' n n' s s' : Nat} {e t : TypeId} {v v' : Value} {xs xs' : List Value} (h : w.ownsRow base e s v n xs) (h' : w.ownsRow base' t s' v' n' xs') (hne : e ≠ t) : v.ownBlock = none ∨ v.ownBlock ≠ v'.ownBlock := by
  rcases h'.2 with ⟨e1, _⟩ | ⟨g', cap, cur, e1, _, hh, _⟩
  · rcases h.2 with ⟨e2, _⟩ | ⟨g, cap, cur, e2, _⟩
    · exact .inl (by rw [e2]; rfl)
    · exact .inr (by rw [e1, e2]; simp [Value.ownBlock])
  · have := own_ne h hh hne
    rw [e1]; exact this

/-- all that was there is as it was, but for two blocks. -/
structure Fr2 (w w' : World) (g bv : Nat) : Prop where
  os : w'.os = w.os
  tape : w'.tape = w.tape
  output : w'.output = w.output
  size : w.heap.size ≤ w'.heap.size
  block : ∀ k, k < w.heap.size → k ≠ g → k ≠ bv → w'.heap[k]? = w.heap[k]?
theorem Fr2.refl (w : World) (g bv : Nat) : Fr2 w w g bv := ⟨rfl, rfl, rfl, Nat.le_refl _, fun _ _ _ _ => rfl⟩
theorem Fr2.grown {w a b : World} {g bv : Nat} {row : Option Nat} (h : Fr2 w a g bv) (k : a.grownBy b row) (hr : ∀ i, row = some i → w.heap.size ≤ i ∨ i = g ∨ i = bv) : Fr2 w b g bv :=
  ⟨k.os.trans h.os, k.tape.trans h.tape, k.output.trans h.output, Nat.le_trans h.size k.size, fun i hi h1 h2 => (k.block i (Nat.lt_of_lt_of_le hi h.size) (fun e => by
    rcases hr i e.symm with h3 | h3 | h3
    · omega
    · exact h1 h3
    · exact h2 h3)).trans (h.block i hi h1 h2)⟩

section
variable {w wr w1 w2 w4 : World} {g bv : Nat} {A : Option Addr} {n c k m : Nat} {vv v vv' : Value} {items : List VItem}
theorem OwnV.kept {base : Nat} {row : Option Nat} (h : OwnV wr base vv items) (hg : wr.grownBy w1 row) (h1 : vv.ownBlock = none ∨ vv.ownBlock ≠ row) (h2 : ∀ it ∈ items, it.v.ownBlock = none ∨ it.v.ownBlock ≠ row) : OwnV w1 base vv items :=
  ⟨h.row.kept hg h1, fun it hit => (h.each it hit).kept hg (h2 it hit)⟩
end

theorem pieceS_gave {l : List UInt8} {k : Nat} {kd sz : Int} {er : Nat} (h : pieceS l k kd sz = .gave er) : er ≠ 0 := by
  unfold pieceS at h
  repeat' split at h
  all_goals first | cases h | skip
  all_goals omega

end Go.Proofs.Ytlcgciafclfoeaa
