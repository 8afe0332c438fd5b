/-
  News that wait, in the memory: a queue, what is looked up in it, stored into it, taken out of it.
-/
import Derived.Test.YtjdedlmphghpnaaGa
import Derived.Test.YtjdedlmphghpnaaGb
import Derived.Test.YtjdedlmphghpnaaQc
namespace Go.Proofs.Ytjdedlmphghpnaa
open Go.RowKit
set_option maxRecDepth 100000
set_option linter.unusedVariables false
set_option linter.unusedSimpArgs false

theorem findK_shift (k : Int) : ∀ (L : List (Int × Value)) (i : Nat), (findK k L i).map (·.2) = (findK k L 0).map (·.2)
  | [], i => rfl
  | p :: t, i => by
    unfold findK
    split
    · rfl
    · rw [findK_shift k t (i + 1), findK_shift k t (0 + 1)]
theorem lookK_cons (p : Int × Value) (t : List (Int × Value)) (k : Int) : lookK (p :: t) k = if k = p.1 then some p.2 else lookK t k := by
  unfold lookK
  conv => lhs; unfold findK
  split
  · rfl
  · rw [findK_shift]
/-- an entry in the memory: what waits stands in a block of S. -/
def NtS (w : World) (S : Nat → Prop) (v : Value) (x : Nw) : Prop :=
  ∃ g c, v = .agg #[.slice (some ⟨g, 0, none⟩) x.1.length c, .int .i64 (x.2 : Int)] ∧ S g ∧ g < w.heap.size ∧ x.1.length ≤ c ∧ Byt w w.heap.size (some ⟨g, 0, none⟩) x.1
theorem byt_heap {w w' : World} {B B' g : Nat} {l : List UInt8} (h : Byt w B (some ⟨g, 0, none⟩) l) (hk : w'.heap[g]? = w.heap[g]?) (hB : B ≤ B') : Byt w' B' (some ⟨g, 0, none⟩) l := fun hl => by
  obtain ⟨b, off, e, hb, hc⟩ := h hl
  cases e
  refine ⟨g, 0, rfl, by omega, fun i hi => ?_⟩
  have := hc i hi
  unfold World.cell? at this ⊢
  rw [hk]; exact this
theorem NtS.keep {w w' : World} {S S' : Nat → Prop} {v : Value} {x : Nw} (h : NtS w S v x) (hk : ∀ g, S g → g < w.heap.size → w'.heap[g]? = w.heap[g]?) (hs : w.heap.size ≤ w'.heap.size) (hS : ∀ g, S g → S' g) : NtS w' S' v x := by
  obtain ⟨g, c, e, hg, hl, hc, hb⟩ := h
  exact ⟨g, c, e, hS g hg, by omega, hc, byt_heap hb (hk g hg hl) hs⟩
/-- all entries. -/
def AllNt (w : World) (S : Nat → Prop) : List (Int × Value) → List (Int × Nw) → Prop
  | [], [] => True
  | a :: s, b :: t => a.1 = b.1 ∧ NtS w S a.2 b.2 ∧ AllNt w S s t
  | _, _ => False
theorem AllNt.keep {w w' : World} {S S' : Nat → Prop} (hk : ∀ g, S g → g < w.heap.size → w'.heap[g]? = w.heap[g]?) (hs : w.heap.size ≤ w'.heap.size) (hS : ∀ g, S g → S' g) : ∀ {V : List (Int × Value)} {L : List (Int × Nw)}, AllNt w S V L → AllNt w' S' V L
  | [], [], _ => trivial
  | a :: s, b :: t, h => ⟨h.1, h.2.1.keep hk hs hS, AllNt.keep hk hs hS h.2.2⟩
  | [], _ :: _, h => h.elim
  | _ :: _, [], h => h.elim
theorem AllNt.keys {w : World} {S : Nat → Prop} : ∀ {V : List (Int × Value)} {L : List (Int × Nw)}, AllNt w S V L → V.map (·.1) = L.map (·.1)
  | [], [], _ => rfl
  | a :: s, b :: t, h => by rw [List.map_cons, List.map_cons, h.1, AllNt.keys h.2.2]
  | [], _ :: _, h => h.elim
  | _ :: _, [], h => h.elim
theorem AllNt.len {w : World} {S : Nat → Prop} {V : List (Int × Value)} {L : List (Int × Nw)} (h : AllNt w S V L) : V.length = L.length := by
  have := congrArg List.length h.keys
  simpa using this
theorem AllNt.look {w : World} {S : Nat → Prop} (k : Int) : ∀ {V : List (Int × Value)} {L : List (Int × Nw)}, AllNt w S V L → (lookK V k = none ∧ lookQ k L = none) ∨ ∃ v x, lookK V k = some v ∧ lookQ k L = some x ∧ NtS w S v x
  | [], [], _ => .inl ⟨rfl, rfl⟩
  | a :: s, b :: t, h => by
    rw [lookK_cons]
    unfold lookQ
    by_cases e : k = b.1
    · rw [if_pos (by rw [h.1]; exact e), if_pos e]
      exact .inr ⟨_, _, rfl, rfl, h.2.1⟩
    · rw [if_neg (by rw [h.1]; exact e), if_neg e]
      exact AllNt.look k h.2.2
  | [], _ :: _, h => h.elim
  | _ :: _, [], h => h.elim
theorem AllNt.put {w : World} {S : Nat → Prop} {k : Int} {v : Value} {x : Nw} (hv : NtS w S v x) : ∀ {V : List (Int × Value)} {L : List (Int × Nw)}, AllNt w S V L → AllNt w S (putK k v V) (putQ k x L)
  | [], [], _ => ⟨rfl, hv, trivial⟩
  | a :: s, b :: t, h => by
    unfold putK putQ
    by_cases e : k = b.1
    · rw [if_pos (by rw [h.1]; exact e), if_pos e]
      exact ⟨rfl, hv, h.2.2⟩
    · rw [if_neg (by rw [h.1]; exact e), if_neg e]
      exact ⟨h.1, h.2.1, AllNt.put hv h.2.2⟩
  | [], _ :: _, h => h.elim
  | _ :: _, [], h => h.elim
theorem AllNt.drop {w : World} {S : Nat → Prop} {k : Int} : ∀ {V : List (Int × Value)} {L : List (Int × Nw)}, AllNt w S V L → AllNt w S (dropK k V) (dropQ k L)
  | [], [], _ => trivial
  | a :: s, b :: t, h => by
    unfold dropK dropQ
    by_cases e : k = b.1
    · rw [if_pos (by rw [h.1]; exact e), if_pos e]
      exact h.2.2
    · rw [if_neg (by rw [h.1]; exact e), if_neg e]
      exact ⟨h.1, h.2.1, AllNt.drop h.2.2⟩
  | [], _ :: _, h => h.elim
  | _ :: _, [], h => h.elim
end Go.Proofs.Ytjdedlmphghpnaa
