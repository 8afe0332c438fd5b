/-
  The options of a tunnel as a row that grows; the walks of given and taken.
-/
import Derived.Test.YtdmlgogjipcggaaGng
import Derived.Test.YtdmlgogjipcggaaMad
import Derived.Deep.RegionLaw
import Derived.Deep.AppendLies
import Derived.Deep.RegionHeld3
import Derived.Deep.CutRange
namespace Go.Proofs.Ytdmlgogjipcggaa
open Go.RowKit
set_option maxRecDepth 100000
set_option linter.unusedVariables false
set_option linter.unusedSimpArgs false
attribute [local go_sem ↓] exec_span exec_put exec_build heap_alloc_new heap_old
attribute [local go_sem] spanQ_ptr spanC_some heap_of_drew heap_of_drewN putAt_ptr putOk_ptr oldOk_some World.setRow_alloc_new

/-- v is a row of the call's own, whose elements are these options; their bytes lie elsewhere. -/
structure OgS (w : World) (base : Nat) (t : TypeId) (v : Value) (l : List OpG) : Prop where
  row : w.ownsRow base t 3 v l.length (ogsC l)
  ob : OgB w w.heap.size l
  ne : ∀ x ∈ l, 0 < x.d.length → ∀ a, x.a = some a → v.ownBlock ≠ some a.block
theorem OgS.nil (w : World) (base : Nat) (t : TypeId) : OgS w base t (.slice none 0 0) [] := ⟨World.ownsRow_nil _ _ _ _, OgB.nil _ _, fun x hx => by simp at hx⟩
theorem Byt.grown {w w' : World} {B : Nat} {A : Option Addr} {l : List UInt8} {row : Option Nat} (h : Byt w B A l) (hg : w.grownBy w' row) (hne : 0 < l.length → ∀ a, A = some a → row ≠ some a.block) : Byt w' B A l := fun hl => by
  obtain ⟨b, off, e, hb, hc⟩ := h hl
  exact ⟨b, off, e, hb, fun i hi => hg.cell (hc i hi) (fun e2 => hne hl _ e e2.symm)⟩
theorem Byt.blk {w : World} {B : Nat} {A : Option Addr} {l : List UInt8} (h : Byt w B A l) (hl : 0 < l.length) {a : Addr} (e : A = some a) : a.block < B := by
  obtain ⟨b, off, e2, hb, -⟩ := h hl
  rw [e] at e2; cases e2; exact hb
theorem OgS.grown {w w' : World} {base : Nat} {t : TypeId} {v : Value} {l : List OpG} {row : Option Nat} (h : OgS w base t v l) (hg : w.grownBy w' row) (h1 : v.ownBlock = none ∨ v.ownBlock ≠ row) (h2 : ∀ x ∈ l, 0 < x.d.length → ∀ a, x.a = some a → row ≠ some a.block) : OgS w' base t v l :=
  ⟨World.ownsRow.kept h.row hg h1, fun x hx => ⟨((h.ob x hx).1.grown hg (h2 x hx)).more hg.size, (h.ob x hx).2⟩, h.ne⟩
theorem OgS.below {w w' : World} {base : Nat} {t : TypeId} {v : Value} {l : List OpG} (h : OgS w base t v l) (hb : Below w.heap.size w w') : OgS w' base t v l :=
  h.grown (row := none) ⟨hb.os, hb.tape, hb.output, hb.size, fun k hk _ => hb.block k hk⟩ (by cases hv : v.ownBlock <;> simp) (fun _ _ _ _ _ => by simp)
/-- a store into a box that lies below all that. -/
theorem OgS.box {w w' : World} {base g : Nat} {t : TypeId} {v : Value} {l : List OpG} (h : OgS w base t v l) (hg : w.grownBy w' (some g)) (h1 : g < base) (h2 : ∀ x ∈ l, 0 < x.d.length → ∀ a, x.a = some a → g ≠ a.block) : OgS w' base t v l :=
  h.grown hg (by
    by_cases e : v.ownBlock = some g
    · have := (World.ownsRow.lt h.row g e).1; omega
    · exact .inr e) (fun x hx hl a ha e => h2 x hx hl a ha (Option.some.inj e))
/-- one option more: what is so behind the append. -/
theorem OgS.snoc {w w2 : World} {base : Nat} {t : TypeId} {v v' : Value} {l : List OpG} {x : OpG} (h : OgS w base t v l) (hg : w.grownBy w2 v.ownBlock) (hv : w2.ownsRow base t 3 v' (l.length + 1) (ogsC l ++ ogC x)) (ha : ∀ k, v'.ownBlock = some k → v.ownBlock = some k ∨ w.heap.size ≤ k)
    (hx : Byt w w.heap.size x.a x.d ∧ (x.a = none → x.k = 0) ∧ x.d.length ≤ x.k) (hxa : 0 < x.d.length → ∀ a, x.a = some a → v.ownBlock ≠ some a.block) : OgS w2 base t v' (l ++ [x]) := by
  have key : ∀ y ∈ l ++ [x], (Byt w w.heap.size y.a y.d ∧ (y.a = none → y.k = 0) ∧ y.d.length ≤ y.k) ∧ (0 < y.d.length → ∀ a, y.a = some a → v.ownBlock ≠ some a.block) := fun y hy => by
    rcases List.mem_append.1 hy with h1 | h1
    · exact ⟨h.ob y h1, h.ne y h1⟩
    · rw [List.mem_singleton] at h1; subst h1; exact ⟨hx, hxa⟩
  refine ⟨by rw [ogsC_snoc, List.length_append]; exact hv, fun y hy => ⟨((key y hy).1.1.grown hg (key y hy).2).more hg.size, (key y hy).1.2⟩, fun y hy hl a e e2 => ?_⟩
  rcases ha _ e2 with h1 | h1
  · exact (key y hy).2 hl a e h1
  · have := (key y hy).1.1.blk hl e; omega
theorem OgS.rd {w : World} {base : Nat} {t : TypeId} {v : Value} {l : List OpG} (h : OgS w base t v l) : ∃ A c, v = .slice A l.length c ∧ l.length ≤ c ∧ RdG w w.heap.size A l := row_ogs h.row rfl

theorem rs_tunG : rowSize Try.prog 28 = some 5 := by kernel_rfl
theorem rs_rtunG : rowSize Try.prog 25 = some 5 := by kernel_rfl
theorem rs_optG : rowSize Try.prog 60 = some 3 := by kernel_rfl
theorem rs_roptG : rowSize Try.prog 58 = some 3 := by kernel_rfl
theorem info_optG : (Try.prog.info? 60).map (fun i => (i.zero, i.size, i.bytes)) = some (some (.agg #[.int .i64 0, .int .i64 0, .slice none 0 0]), 3, 40) := by kernel_rfl
theorem info_roptG : (Try.prog.info? 58).map (fun i => (i.zero, i.size, i.bytes)) = some (some (.agg #[.int .i64 0, .int .i64 0, .slice none 0 0]), 3, 40) := by kernel_rfl
theorem info_tunG : (Try.prog.info? 28).map (·.size) = some 5 := by kernel_rfl
theorem info_rtunG : (Try.prog.info? 25).map (·.size) = some 5 := by kernel_rfl
theorem built_tunG (o : Bool) (p v : Int) (I : Option Addr) (n k : Nat) : Try.prog.built 28 [(0, .bool o), (1, .int .i64 p), (2, .int .i64 v), (4, .slice I n k)] = some (tunA o p v none 0 0 I n k) := by kernel_rfl
theorem built_rtunG (o : Bool) (p v : Int) (I : Option Addr) (n k : Nat) : Try.prog.built 25 [(0, .bool o), (1, .int .i64 p), (2, .int .i64 v), (4, .slice I n k)] = some (tunA o p v none 0 0 I n k) := by kernel_rfl
theorem built_optG (c t : Int) (A : Option Addr) (n k : Nat) : Try.prog.built 60 [(0, .int .i64 c), (1, .int .i64 t), (2, .slice A n k)] = some #[.int .i64 c, .int .i64 t, .slice A n k] := by kernel_rfl
theorem built_roptG (c t : Int) (A : Option Addr) (n k : Nat) : Try.prog.built 58 [(0, .int .i64 c), (1, .int .i64 t), (2, .slice A n k)] = some #[.int .i64 c, .int .i64 t, .slice A n k] := by kernel_rfl
/-- the local tunnel at g: what stands in it behind j options; their bytes lie neither in it nor in the box r of the result. -/
structure TlI (w wr : World) (g r : Nat) (tt te : TypeId) (T : TuD) (j : Nat) (A : Option Addr) (c : Nat) (I : Option Addr) (k : Nat) (l : List OpG) : Prop where
  box : wr.heap[g]? = some (.cells (tunA T.o T.p T.v A l.length c I T.D.length k) tt (0, 0))
  og : OgS wr (g + 1) te (.slice A l.length c) l
  say : l.map OpG.say = T.l.take j
  far : ∀ x ∈ l, 0 < x.d.length → ∀ a, x.a = some a → a.block ≠ g ∧ a.block ≠ r
  i : Byt wr wr.heap.size I T.D
  ib : 0 < T.D.length → ∀ a, I = some a → (a.block ≠ g ∧ a.block ≠ r) ∧ (Value.slice A l.length c).ownBlock ≠ some a.block
  inn : I = none → k = 0
  ik : T.D.length ≤ k
  bel : Below w.heap.size w wr
  lo : w.heap.size ≤ g
section
variable {w wr w2 : World} {g r : Nat} {tt te : TypeId} {T : TuD} {j : Nat} {A : Option Addr} {c : Nat} {I : Option Addr} {k : Nat} {l : List OpG}
theorem TlI.len (h : TlI w wr g r tt te T j A c I k l) (hj : j ≤ T.l.length) : l.length = j := by
  have := congrArg List.length h.say
  simpa [Nat.min_eq_left hj] using this
theorem TlI.lt (h : TlI w wr g r tt te T j A c I k l) : g < wr.heap.size := (Array.getElem?_eq_some_iff.1 h.box).1
/-- what was only added to stays so. -/
theorem TlI.below (h : TlI w wr g r tt te T j A c I k l) (hb : Below wr.heap.size wr w2) : TlI w w2 g r tt te T j A c I k l :=
  ⟨(hb.block g h.lt).trans h.box, h.og.below hb, h.say, h.far, (h.i.below hb).more hb.size, h.ib, h.inn, h.ik, h.bel.trans (hb.mono h.bel.size), h.lo⟩
/-- a box ahead of it is stored into. -/
theorem TlI.box2 (h : TlI w wr g r tt te T j A c I k l) (hg : wr.grownBy w2 (some r)) (h1 : w.heap.size ≤ r) (h2 : r < g) : TlI w w2 g r tt te T j A c I k l :=
  ⟨(hg.block g h.lt (by simp; omega)).trans h.box, h.og.box hg (by omega) (fun x hx hl a e => fun e2 => (h.far x hx hl a e).2 e2.symm), h.say, h.far, (h.i.grown hg (fun hl a e e2 => (h.ib hl a e).1.2 (Option.some.inj e2).symm)).more hg.size, h.ib, h.inn, h.ik, h.bel.grown hg h.bel.size (fun k e => by cases e; exact h1), h.lo⟩
/-- one option more: behind the append and its store. -/
theorem TlI.snoc (h : TlI w wr g r tt te T j A c I k l) {x : OpG} {gg cap : Nat}
    (hg : wr.grownBy w2 (Value.slice A l.length c).ownBlock) (hv : w2.ownsRow (g + 1) te 3 (.slice (some ⟨gg, 0, none⟩) (l.length + 1) cap) (l.length + 1) (ogsC l ++ ogC x)) (ha : (Value.slice A l.length c).ownBlock = some gg ∨ wr.heap.size ≤ gg)
    (hx : Byt wr wr.heap.size x.a x.d ∧ (x.a = none → x.k = 0) ∧ x.d.length ≤ x.k) (hxa : 0 < x.d.length → ∀ a, x.a = some a → (a.block ≠ g ∧ a.block ≠ r) ∧ (Value.slice A l.length c).ownBlock ≠ some a.block) (hj : j < T.l.length) (hs : T.l[j] = x.say) :
    TlI w (w2.setCell ⟨g, 3, none⟩ (.slice (some ⟨gg, 0, none⟩) (l.length + 1) cap)) g r tt te T (j + 1) (some ⟨gg, 0, none⟩) cap I k (l ++ [x]) := by
  have hne : (Value.slice A l.length c).ownBlock ≠ some g := fun e => by have := (World.ownsRow.lt h.og.row g e).1; omega
  have b2 : w2.heap[g]? = some (.cells (tunA T.o T.p T.v A l.length c I T.D.length k) tt (0, 0)) := (hg.block g h.lt (fun e => hne e.symm)).trans h.box
  have hgt : g < gg := by have := (World.ownsRow.lt hv gg rfl).1; omega
  have s2 := h.og.snoc hg hv (fun k e => by cases e; exact ha) hx (fun hl a e => (hxa hl a e).2)
  have gs : w2.grownBy (w2.setCell ⟨g, 3, none⟩ (.slice (some ⟨gg, 0, none⟩) (l.length + 1) cap)) (some g) := grown_set w2 g 3 _
  have hfar : ∀ y ∈ l ++ [x], 0 < y.d.length → ∀ a, y.a = some a → a.block ≠ g ∧ a.block ≠ r := fun y hy hl a e => by
    rcases List.mem_append.1 hy with h1 | h1
    · exact h.far y h1 hl a e
    · rw [List.mem_singleton] at h1; subst h1; exact (hxa hl a e).1
  have hlo := h.lo
  have hl : (l ++ [x]).length = l.length + 1 := by simp
  refine ⟨?_, ?_, ?_, hfar, ?_, ?_, h.inn, h.ik, ?_, h.lo⟩
  · rw [hl]; exact heap_setCell_same w2 g 3 _ _ _ b2
  · rw [hl]; exact s2.box gs (Nat.lt_succ_self _) (fun y hy hp a e e2 => (hfar y hy hp a e).1 e2.symm)
  · rw [List.map_append, h.say, List.take_succ_eq_append_getElem hj, hs]; rfl
  · exact ((h.i.grown hg (fun hp a e => (h.ib hp a e).2)).grown gs (fun hp a e e2 => (h.ib hp a e).1.1 (Option.some.inj e2).symm)).more (Nat.le_trans hg.size gs.size)
  · refine fun hp a e => ⟨(h.ib hp a e).1, fun e2 => ?_⟩
    have e3 : gg = a.block := Option.some.inj e2
    rcases ha with h1 | h1
    · exact (h.ib hp a e).2 (by rw [h1, e3])
    · have := h.i.blk hp e; omega
  · refine (h.bel.grown hg h.bel.size (fun k e => ?_)).grown gs (Nat.le_trans h.bel.size hg.size) (fun k e => by cases e; exact h.lo)
    have := (World.ownsRow.lt h.og.row k e).1; omega
theorem TlI.snoc_old (h : TlI w wr g r tt te T j A c I k l) (hg : wr.grownBy w2 (Value.slice A l.length c).ownBlock) {i : Nat} (hi : i < g) (u : Value) : (w2.setCell ⟨g, 3, none⟩ u).heap[i]? = wr.heap[i]? := by
  have hlt := h.lt
  have gs := grown_set w2 g 3 u
  exact (gs.block i (Nat.lt_of_lt_of_le (by omega) hg.size) (by simp; omega)).trans (hg.block i (by omega) (fun e => by have := (World.ownsRow.lt h.og.row i e.symm).1; omega))
/-- all options stand in it: the tunnel. -/
theorem TlI.all (h : TlI w wr g r tt te T T.l.length A c I k l) : TuG wr (tunA T.o T.p T.v A l.length c I T.D.length k) T := by
  obtain ⟨A', c', e, hle, hr⟩ := h.og.rd
  cases e
  exact ⟨A, c, l, I, k, rfl, by rw [h.say, List.take_length], hr, h.og.ob, hle, h.i, h.inn, h.ik⟩
end
end Go.Proofs.Ytdmlgogjipcggaa
