/-
  The walk of geneve.Put.
-/
import Derived.Test.YtdlilokmfekndaaGnb
namespace Go.Proofs.Ytdlilokmfekndaa
open Go.RowKit
set_option maxRecDepth 100000
set_option linter.unusedVariables false
set_option linter.unusedSimpArgs false

def numIG (N : Nat) : VItem := ⟨N, .slice none 0 0, []⟩
/-- what an option is laid of. -/
def itG (o : OpG) : List VItem := [numIG o.c.toNat, numIG o.t.toNat, numIG (o.d.length / 4), ⟨0, .slice o.a o.d.length o.k, o.d⟩]
def opG4 (o : OpG) : List (Int × Int) := [(0, 2), (0, 1), (0, 1), (1, (o.d.length : Int))]
def itsG (s f p v : Nat) (l : List OpG) : List VItem := [numIG s, numIG f, numIG p, numIG v, numIG 0] ++ l.flatMap itG
def opsG (l : List OpG) : List (Int × Int) := [(0, 1), (0, 1), (0, 2), (0, 3), (0, 1)] ++ l.flatMap opG4
theorem itsG_snoc (s f p v : Nat) (l : List OpG) (o : OpG) : itsG s f p v (l ++ [o]) = ((((itsG s f p v l ++ [numIG o.c.toNat]) ++ [numIG o.t.toNat]) ++ [numIG (o.d.length / 4)]) ++ [⟨0, .slice o.a o.d.length o.k, o.d⟩]) := by
  simp [itsG, itG]
theorem opsG_snoc (l : List OpG) (o : OpG) : opsG (l ++ [o]) = ((((opsG l ++ [(0, 2)]) ++ [(0, 1)]) ++ [(0, 1)]) ++ [(1, (o.d.length : Int))]) := by
  simp [opsG, opG4]
theorem len_itsG (s f p v : Nat) (l : List OpG) : (itsG s f p v l).length = 5 + 4 * l.length := by
  induction l with
  | nil => rfl
  | cons a l ih => simp [itsG, itG] at ih ⊢; omega
theorem len_opsG (l : List OpG) : (opsG l).length = 5 + 4 * l.length := by
  induction l with
  | nil => rfl
  | cons a l ih => simp [opsG, opG4] at ih ⊢; omega
/-- what the layout holds, in some world behind W. -/
def StG (W wr : World) (g : Nat) (its : List VItem) (ops : List (Int × Int)) : Prop := ∃ vv oo, LayG wr (g + 1) g vv oo its ops ∧ Below g W wr
theorem LayF.below {W w w' : World} {g : Nat} {vv oo vv' oo' : Value} {its : List VItem} {ops : List (Int × Int)} (h : LayF w w' g vv oo vv' oo') (hl : LayG w (g + 1) g vv oo its ops) (hb : Below g W w) : Below g W w' :=
  ⟨h.os.trans hb.os, h.tape.trans hb.tape, h.output.trans hb.output, Nat.le_trans hb.size h.size, fun k hk => by
    have hgl : g < w.heap.size := (Array.getElem?_eq_some_iff.1 hl.row).1
    exact (h.block k (by omega) (by omega) (fun e => by have := (World.ownsRow.lt hl.v k e).1; omega) (fun e => by have := (World.ownsRow.lt hl.o k e).1; omega)).trans (hb.block k hk)⟩
/-- a number is laid. -/
theorem stNum {W wr : World} {g : Nat} {its : List VItem} {ops : List (Int × Int)} (h : StG W wr g its ops) (hl : its.length ≤ 8388608) (hl2 : ops.length ≤ 8388608) (sz : Int) (N : Nat) (hN : N < 9223372036854775808) :
    Calls Try.prog 39 #[.pointer (some ⟨g, 0, none⟩), .int .i64 sz, .int .i64 (N : Int)] wr fun e w' => e = .returned (.tuple #[]) ∧ StG W w' g (its ++ [numIG N]) (ops ++ [(0, sz)]) ∧ (∀ k, g < k → k < wr.heap.size → (∀ (vv oo : Value), wr.heap[g]? = some (.cells #[vv, oo] 91 (0, 0)) → vv.ownBlock ≠ some k ∧ oo.ownBlock ≠ some k) → w'.heap[k]? = wr.heap[k]? ∧ ∀ (vv oo : Value), w'.heap[g]? = some (.cells #[vv, oo] 91 (0, 0)) → vv.ownBlock ≠ some k ∧ oo.ownBlock ≠ some k) := by
  obtain ⟨vv, oo, hL, hb⟩ := h
  refine (layNum_any wr (g + 1) g vv oo its ops hL hl hl2 sz N hN).mono ?_
  rintro e w' ⟨vv', oo', rfl, hL', hF⟩
  refine ⟨rfl, ⟨vv', oo', hL', hF.below hL hb⟩, fun k hgk hk hne => ?_⟩
  obtain ⟨n1, n2⟩ := hne vv oo hL.row
  refine ⟨hF.block k hk (by omega) n1 n2, fun v2 o2 hr => ?_⟩
  have e := hL'.row.symm.trans hr
  simp only [Option.some.injEq, Obj.cells.injEq, Array.mk.injEq, List.cons.injEq] at e
  obtain ⟨⟨rfl, rfl, -⟩, -⟩ := e
  constructor
  · rcases hF.nv with e2 | e2
    · rw [e2]; exact n1
    · intro e3; have := e2 k e3; omega
  · rcases hF.no with e2 | e2
    · rw [e2]; exact n2
    · intro e3; have := e2 k e3; omega
theorem stTake {W wr : World} {g : Nat} {its : List VItem} {ops : List (Int × Int)} (h : StG W wr g its ops) (hl : its.length ≤ 8388608) (hl2 : ops.length ≤ 8388608) (A : Option Addr) (m c : Nat) (d : List UInt8) :
    Calls Try.prog 41 #[.pointer (some ⟨g, 0, none⟩), .slice A m c] wr fun e w' => e = .returned (.tuple #[]) ∧ StG W w' g (its ++ [⟨0, .slice A m c, d⟩]) (ops ++ [(1, (m : Int))]) := by
  obtain ⟨vv, oo, hL, hb⟩ := h
  refine (layTake_any wr (g + 1) g vv oo its ops hL hl hl2 A m c d).mono ?_
  rintro e w' ⟨vv', oo', rfl, hL', hF⟩
  exact ⟨rfl, ⟨vv', oo', hL', hF.below hL hb⟩⟩
end Go.Proofs.Ytdlilokmfekndaa
