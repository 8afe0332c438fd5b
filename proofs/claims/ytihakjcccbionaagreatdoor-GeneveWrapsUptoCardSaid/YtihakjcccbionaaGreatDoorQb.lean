/-
  A drawn region whose operations read and whose callees read, draw and lay blocks of their own, walked once in the text's order: the class of all worlds that keep what was there.
-/
import Derived.Test.YtihakjcccbionaaGreatDoorMad
import Derived.BigQuiet
import Derived.Deep.QuietTactic
import Derived.Deep.Cut
namespace Go.Proofs.YtihakjcccbionaaGreatDoor
open Go.RowKit
set_option linter.unusedVariables false

/-- a world that keeps all that was there. -/
structure BW (w0 : World) where
  w : World
  below : Below w0.heap.size w0 w
instance (w0 : World) : Inhabited (BW w0) := ⟨⟨w0, Below.refl _ _⟩⟩
theorem BW.block {w0 : World} (p : BW w0) {g : Nat} {o : Obj} (h : w0.heap[g]? = some o) : p.w.heap[g]? = some o := by
  rw [p.below.block g (by rcases Nat.lt_or_ge g w0.heap.size with h' | h'; · exact h'
                          · rw [Array.getElem?_eq_none h'] at h; cases h)]; exact h
theorem BW.cell {w0 : World} (p : BW w0) {a : Addr} {v : Value} (h : w0.cell? a = some v) : p.w.cell? a = some v := by
  have hb : p.w.heap[a.block]? = w0.heap[a.block]? := by
    rcases Nat.lt_or_ge a.block w0.heap.size with h' | h'
    · exact p.below.block _ h'
    · exfalso
      unfold World.cell? at h
      rw [Array.getElem?_eq_none h'] at h
      cases h
  unfold World.cell? at h ⊢
  rw [hb]; exact h
theorem wp_region_below {P : Program} {id : Nat} {Q : Exit → Act → World → Prop} {a : Act} {w : World} {l : List Oper} (w0 : World) (hw : Below w0.heap.size w0 w) (hm : P.follows .mixedOrders = true) (hB : Region.lexB .any l.toArray = true)
    (h : wpQuiet P l.toArray (fun w' => ∃ p : BW w0, w' = p.w) (fun a' => ∀ w', (∃ p : BW w0, w' = p.w) → Q .normal a' w') l a) : (Code.region id l.toArray true).wp P Q a w :=
  wp_region_quiet (C := fun w' => ∃ p : BW w0, w' = p.w) hm hB ⟨⟨w.drew, ⟨hw.os, hw.tape, hw.output, hw.size, hw.block⟩⟩, rfl⟩ (by simpa using h)
theorem Calls.bel {P : Program} {f : FuncId} {args : Array Value} {w0 : World} {p : BW w0} {v : Value}
    (h : Calls P f args p.w fun e w' => e = .returned v ∧ Below p.w.heap.size p.w w') : Calls P f args p.w fun e w'' => e = .returned v ∧ ∃ q : BW w0, w'' = q.w :=
  h.mono fun _ _ ⟨he, hb⟩ => ⟨he, ⟨_, p.below.trans (hb.mono p.below.size)⟩, rfl⟩
theorem Calls.bel_same {P : Program} {f : FuncId} {args : Array Value} {w0 : World} {p : BW w0} {v : Value}
    (h : Calls P f args p.w fun e w' => e = .returned v ∧ p.w = w') : Calls P f args p.w fun e w'' => e = .returned v ∧ ∃ q : BW w0, w'' = q.w :=
  h.mono fun _ _ ⟨he, hb⟩ => ⟨he, p, hb.symm⟩

/-- the load of a whole struct or array, in every world of the class. -/
theorem quiet_span {P : Program} {dst : Option Tmp} {t ty : TypeId} {x : Operand} {pos : String} {after : Array Edge} {g : Option (Nat × Bool)} {a : Act} {w0 : World} {K : Act → Prop} {cs : Array Value}
    (h : ∀ p : BW w0, spanQ P t p.w (a.eval x) = some cs) (hK : K (a.put dst (.agg cs))) : Oper.quiet P ⟨dst, .load t x, ty, pos, after, g⟩ a (fun w' => ∃ p : BW w0, w' = p.w) K := by
  refine ⟨.agg cs, ?_, hK⟩
  rintro w ⟨p, rfl⟩
  unfold Oper.quietAt
  rw [exec_span (by rw [h p]; rfl), h p]
  exact ⟨rfl, rfl⟩

end Go.Proofs.YtihakjcccbionaaGreatDoor
