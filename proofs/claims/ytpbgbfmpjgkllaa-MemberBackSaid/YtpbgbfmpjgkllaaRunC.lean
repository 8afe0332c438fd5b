/-
  The walk of the closure that Run hands on: piece after piece, up to the first error.
-/
import Derived.Test.YtpbgbfmpjgkllaaPany
import Derived.Deep.RegionHeld3
import Derived.Deep.AppendLies
namespace Go.Proofs.Ytpbgbfmpjgkllaa
open Go.RowKit
set_option maxRecDepth 100000

/-- what pieces are, how many bytes were read, the error (0: none). -/
def runS (l : List UInt8) : List (Int × Int) → Nat → List (Nat × List UInt8) × Nat × Nat
  | [], k => ([], k, 0)
  | (kd, sz) :: t, k =>
    match pieceS l k kd sz with
    | .gave er => ([], k, er)
    | .got N b m => ((N, b) :: (runS l t (k + m)).1, (runS l t (k + m)).2)

/-- the slice that begins at A reads, below block B, as pieces. -/
def Ops (w : World) (B : Nat) (A : Option Addr) (l : List (Int × Int)) : Prop :=
  0 < l.length → ∃ b off, A = some ⟨b, off, none⟩ ∧ b < B ∧ ∀ i (h : i < l.length), w.cell? ⟨b, off + i * 2, none⟩ = some (.int .i64 l[i].1) ∧ w.cell? ⟨b, off + i * 2 + 1, none⟩ = some (.int .i64 l[i].2)

/-- one thing that was read: its number, its slice, the bytes that it holds. -/
structure VItem where
  N : Nat
  v : Value
  b : List UInt8
def itemCells (l : List VItem) : List Value := l.flatMap fun it => [.int .u64 (it.N : Int), it.v]
/-- the slice value vv owns, from block 'base' on, a row of things that were read. -/
structure OwnV (w : World) (base : Nat) (vv : Value) (l : List VItem) : Prop where
  row : w.ownsRow base 113 2 vv l.length (itemCells l)
  each : ∀ it ∈ l, OwnB w base it.v it.b

theorem info_val : (Try.prog.info? 113).map (fun i => (i.zero, i.size, i.bytes)) = some (some (.agg #[.int .u64 0, .slice none 0 0]), 2, 32) := by kernel_rfl

theorem one_cell {w : World} {b : Nat} {v : Value} {t : TypeId} (h : w.heap[b]? = some (.cells #[v] t (0, 0))) : w.cell? ⟨b, 0, none⟩ = some v := cell_of_row w b 0 _ _ (0, 0) h
theorem two_cells (w : World) (a b : Value) (t : TypeId) : (w.alloc (.cells #[a, b] t)).cell? ⟨w.heap.size, 0, none⟩ = some a ∧ (w.alloc (.cells #[a, b] t)).cell? ⟨w.heap.size, 1, none⟩ = some b :=
  ⟨cell_of_row _ _ 0 _ _ (0, 0) (heap_alloc_new w _), cell_of_row _ _ 1 _ _ (0, 0) (heap_alloc_new w _)⟩
theorem own_ne {w : World} {base g n s : Nat} {e t : TypeId} {v : Value} {xs : List Value} {cs : Array Value} {fr : Nat × Nat} (h : w.ownsRow base e s v n xs) (hb : w.heap[g]? = some (.cells cs t fr)) (hne : e ≠ t) : v.ownBlock = none ∨ v.ownBlock ≠ some g := by
  rcases h.2 with ⟨e1, _⟩ | ⟨g', cap, cur, e1, _, hh, _⟩
  · exact .inl (by rw [e1]; rfl)
  · refine .inr ?_
    rw [e1]
    simp only [Value.ownBlock, ne_eq, Option.some.injEq]
    intro e2
    rw [e2, hb] at hh
    injection hh with hh
    injection hh with _ h2
    exact hne h2.symm
theorem own_own_ne {w : World} {base base' n n' s s' : Nat} {e t : TypeId} {v v' : Value} {xs xs' : List Value} (h : w.ownsRow base e s v n xs) (h' : w.ownsRow base' t s' v' n' xs') (hne : e ≠ t) : v.ownBlock = none ∨ v.ownBlock ≠ v'.ownBlock := by
  rcases h'.2 with ⟨e1, _⟩ | ⟨g', cap, cur, e1, _, hh, _⟩
  · rcases h.2 with ⟨e2, _⟩ | ⟨g, cap, cur, e2, _⟩
    · exact .inl (by rw [e2]; rfl)
    · exact .inr (by rw [e1, e2]; simp [Value.ownBlock])
  · have := own_ne h hh hne
    rw [e1]; exact this

/-- all that was there is as it was, but for two blocks. -/
structure Fr2 (w w' : World) (g bv : Nat) : Prop where
  os : w'.os = w.os
  tape : w'.tape = w.tape
  output : w'.output = w.output
  size : w.heap.size ≤ w'.heap.size
  block : ∀ k, k < w.heap.size → k ≠ g → k ≠ bv → w'.heap[k]? = w.heap[k]?
theorem Fr2.refl (w : World) (g bv : Nat) : Fr2 w w g bv := ⟨rfl, rfl, rfl, Nat.le_refl _, fun _ _ _ _ => rfl⟩
theorem Fr2.grown {w a b : World} {g bv : Nat} {row : Option Nat} (h : Fr2 w a g bv) (k : a.grownBy b row) (hr : ∀ i, row = some i → w.heap.size ≤ i ∨ i = g ∨ i = bv) : Fr2 w b g bv :=
  ⟨k.os.trans h.os, k.tape.trans h.tape, k.output.trans h.output, Nat.le_trans h.size k.size, fun i hi h1 h2 => (k.block i (Nat.lt_of_lt_of_le hi h.size) (fun e => by
    rcases hr i e.symm with h3 | h3 | h3
    · omega
    · exact h1 h3
    · exact h2 h3)).trans (h.block i hi h1 h2)⟩

/-- what stands behind some pieces: the Reader at k, the box with what was read, nothing else written. -/
structure RunInv (w wr : World) (g bv : Nat) (A : Option Addr) (n c k : Nat) (vv : Value) (items : List VItem) : Prop where
  rd : Rd wr g A n c k 0
  box : wr.heap[bv]? = some (.cells #[vv] 114 (0, 0))
  own : OwnV wr w.heap.size vv items
  fr : Fr2 w wr g bv

theorem RunInv.start {w : World} {g bv : Nat} {A : Option Addr} {n c k : Nat} (h : Rd w g A n c k 0) (hb : w.heap[bv]? = some (.cells #[.slice none 0 0] 114 (0, 0))) : RunInv w w g bv A n c k (.slice none 0 0) [] :=
  ⟨h, hb, ⟨World.ownsRow_nil _ _ _ _, fun _ h => by cases h⟩, Fr2.refl _ _ _⟩

section
variable {w wr w1 w2 w4 : World} {g bv : Nat} {A : Option Addr} {n c k m : Nat} {vv v vv' : Value} {items : List VItem}
theorem OwnV.kept {base : Nat} {row : Option Nat} (h : OwnV wr base vv items) (hg : wr.grownBy w1 row) (h1 : vv.ownBlock = none ∨ vv.ownBlock ≠ row) (h2 : ∀ it ∈ items, it.v.ownBlock = none ∨ it.v.ownBlock ≠ row) : OwnV w1 base vv items :=
  ⟨h.row.kept hg h1, fun it hit => (h.each it hit).kept hg (h2 it hit)⟩
/-- behind new blocks alone. -/
theorem RunInv.below (h : RunInv w wr g bv A n c k vv items) (hb : Below wr.heap.size wr w1) : RunInv w w1 g bv A n c k vv items := by
  have hg := Below.row hb none
  refine ⟨h.rd.grown hg (by simp), (hb.block bv ?_).trans h.box, h.own.kept hg ?_ (fun it hit => ?_), h.fr.grown hg (by simp)⟩
  · exact (Array.getElem?_eq_some_iff.1 h.box).1
  · rcases h.own.row.2 with ⟨e, _⟩ | ⟨_, _, _, e, _⟩
    · exact .inl (by rw [e]; rfl)
    · exact .inr (by rw [e]; simp [Value.ownBlock])
  · rcases (h.own.each it hit).2 with ⟨e, _⟩ | ⟨_, _, _, e, _⟩
    · exact .inl (by rw [e]; rfl)
    · exact .inr (by rw [e]; simp [Value.ownBlock])

/-- behind a piece that was read, and laid behind the others. -/
theorem RunInv.step {N : Nat} {b : List UInt8} {o : Obj} {q : Nat} (h : RunInv w wr g bv A n c k vv items) (hne : g ≠ bv)
    (hg2 : ((wr.alloc o).drewN q).grownBy w2 (some g)) (hR2 : Rd w2 g A n c (k + m) 0) (hv : OwnB w2 ((wr.alloc o).drewN q).heap.size v b)
    (hrow : w4.ownsRow w.heap.size 113 2 vv' (items.length + 1) (itemCells items ++ [.int .u64 (N : Int), v])) (hg4 : (w2.alloc (.cells #[.int .u64 (N : Int), v] 113)).grownBy w4 vv.ownBlock) :
    RunInv w (w4.setCell ⟨bv, 0, none⟩ vv') g bv A n c (k + m) vv' (items ++ [⟨N, v, b⟩]) := by
  have hbvlt : bv < wr.heap.size := (Array.getElem?_eq_some_iff.1 h.box).1
  have hI1 : RunInv w ((wr.alloc o).drewN q) g bv A n c k vv items := h.below (below_drewN ((Below.refl _ _).alloc (Nat.le_refl _) _) q)
  have hbox2 : w2.heap[bv]? = some (.cells #[vv] 114 (0, 0)) := (hg2.block bv (by have := hI1.box; exact (Array.getElem?_eq_some_iff.1 this).1) (by simp; omega)).trans hI1.box
  have hown2 : OwnV w2 w.heap.size vv items := hI1.own.kept hg2 (own_ne hI1.own.row hI1.rd.blk (by decide)) (fun it hit => own_ne (hI1.own.each it hit) hI1.rd.blk (by decide))
  have hfr2 : Fr2 w w2 g bv := hI1.fr.grown hg2 (fun i e => by cases e; exact .inr (.inl rfl))
  have hR3 := hR2.alloc (.cells #[.int .u64 (N : Int), v] 113)
  have hb3 : Below w2.heap.size w2 (w2.alloc (.cells #[.int .u64 (N : Int), v] 113)) := (Below.refl _ _).alloc (Nat.le_refl _) _
  have hI3 : RunInv w (w2.alloc (.cells #[.int .u64 (N : Int), v] 113)) g bv A n c (k + m) vv items := RunInv.below ⟨hR2, hbox2, hown2, hfr2⟩ hb3
  have hv3 : OwnB (w2.alloc (.cells #[.int .u64 (N : Int), v] 113)) w.heap.size v b := (hv.base (by have := h.fr.size; simp; omega)).alloc _
  generalize w2.alloc (.cells #[.int .u64 (N : Int), v] 113) = w3 at hg4 hI3 hv3
  have hb4 : w4.heap[bv]? = some (.cells #[vv] 114 (0, 0)) := (hg4.block bv (Array.getElem?_eq_some_iff.1 hI3.box).1 (by
    rcases own_ne hI3.own.row hI3.box (by decide) with e | e
    · rw [e]; simp
    · exact fun e2 => e e2.symm)).trans hI3.box
  have hR4 : Rd w4 g A n c (k + m) 0 := hI3.rd.grown hg4 (by
    rcases own_ne hI3.own.row hI3.rd.blk (by decide) with e | e
    · rw [e]; simp
    · exact e)
  have hs := grown_set w4 bv 0 vv'
  refine ⟨hR4.grown hs (by simp; omega), heap_setCell_same w4 bv 0 _ _ _ hb4, ⟨?_, fun it hit => ?_⟩, ?_⟩
  · have := hrow.kept hs (own_ne hrow hb4 (by decide))
    rw [List.length_append, List.length_singleton]
    have e : itemCells (items ++ [⟨N, v, b⟩]) = itemCells items ++ [.int .u64 (N : Int), v] := by simp [itemCells]
    rw [e]; exact this
  · have hall : OwnB w3 w.heap.size it.v it.b := by
      rcases List.mem_append.1 hit with hit | hit
      · exact hI3.own.each it hit
      · rw [List.mem_singleton] at hit
        rw [hit]; exact hv3
    have h4 : OwnB w4 w.heap.size it.v it.b := hall.kept hg4 (own_own_ne hall hI3.own.row (by decide))
    exact h4.kept hs (own_ne h4 hb4 (by decide))
  · refine (hI3.fr.grown hg4 (fun i e => ?_)).grown hs (fun i e => by cases e; exact .inr (.inr rfl))
    exact .inl (World.ownsRow.lt hI3.own.row i e).1
end

/-- the box behind a piece, and behind the append. -/
theorem RunInv.box4 {w wr w2 w4 : World} {g bv : Nat} {A : Option Addr} {n c k q : Nat} {vv : Value} {items : List VItem} {o o' : Obj} (h : RunInv w wr g bv A n c k vv items) (hne : g ≠ bv)
    (hg2 : ((wr.alloc o).drewN q).grownBy w2 (some g)) : w2.heap[bv]? = some (.cells #[vv] 114 (0, 0)) ∧ OwnV (w2.alloc o') w.heap.size vv items ∧ ((w2.alloc o').grownBy w4 vv.ownBlock → w4.heap[bv]? = some (.cells #[vv] 114 (0, 0))) := by
  have hI1 : RunInv w ((wr.alloc o).drewN q) g bv A n c k vv items := h.below (below_drewN ((Below.refl _ _).alloc (Nat.le_refl _) _) q)
  have hlt1 : bv < ((wr.alloc o).drewN q).heap.size := (Array.getElem?_eq_some_iff.1 hI1.box).1
  have hbox2 : w2.heap[bv]? = some (.cells #[vv] 114 (0, 0)) := (hg2.block bv hlt1 (by simp; omega)).trans hI1.box
  have hown2 : OwnV w2 w.heap.size vv items := hI1.own.kept hg2 (own_ne hI1.own.row hI1.rd.blk (by decide)) (fun it hit => own_ne (hI1.own.each it hit) hI1.rd.blk (by decide))
  have hown3 : OwnV (w2.alloc o') w.heap.size vv items := ⟨hown2.row.alloc o', fun it hit => (hown2.each it hit).alloc o'⟩
  have hlt2 : bv < w2.heap.size := (Array.getElem?_eq_some_iff.1 hbox2).1
  have hbox3 : (w2.alloc o').heap[bv]? = some (.cells #[vv] 114 (0, 0)) := (Below.heap_alloc w2 o' bv hlt2).trans hbox2
  refine ⟨hbox2, hown3, fun hg4 => (hg4.block bv (by simp; omega) ?_).trans hbox3⟩
  rcases own_ne hown3.row hbox3 (by decide) with e | e
  · rw [e]; simp
  · exact fun e2 => e e2.symm

theorem pieceS_gave {l : List UInt8} {k : Nat} {kd sz : Int} {er : Nat} (h : pieceS l k kd sz = .gave er) : er ≠ 0 := by
  unfold pieceS at h
  repeat' split at h
  all_goals first | cases h | skip
  all_goals omega

/-- what becomes of the closure: all pieces were read; or the first one that gave up. -/
def RunCPost (w : World) (g bv : Nat) (A : Option Addr) (n c : Nat) (res : List (Nat × List UInt8) × Nat × Nat) (e : Ending) (w' : World) : Prop :=
  ∃ vv items, RunInv w w' g bv A n c res.2.1 vv items ∧ items.map (fun it => (it.N, it.b)) = res.1 ∧ ((res.2.2 = 0 ∧ e = .returned (.tuple #[])) ∨ (res.2.2 ≠ 0 ∧ e = giveUp res.2.2))
end Go.Proofs.Ytpbgbfmpjgkllaa
