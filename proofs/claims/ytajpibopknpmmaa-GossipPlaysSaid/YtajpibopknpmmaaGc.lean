/-
  News that wait, in the memory: a queue, what is looked up in it, stored into it, taken out of it.
-/
import Derived.Test.YtajpibopknpmmaaGa
import Derived.Test.YtajpibopknpmmaaGb
import Derived.Test.YtajpibopknpmmaaQc
namespace Go.Proofs.Ytajpibopknpmmaa
open Go.RowKit
set_option maxRecDepth 100000
set_option linter.unusedVariables false
set_option linter.unusedSimpArgs false

theorem findK_shift (k : Int) : ∀ (L : List (Int × Value)) (i : Nat), (findK k L i).map (·.2) = (findK k L 0).map (·.2)
  | [], i => rfl
  | p :: t, i => by
    unfold findK
    split
    · rfl
    · rw [findK_shift k t (i + 1), findK_shift k t (0 + 1)]
theorem lookK_cons (p : Int × Value) (t : List (Int × Value)) (k : Int) : lookK (p :: t) k = if k = p.1 then some p.2 else lookK t k := by
  unfold lookK
  conv => lhs; unfold findK
  split
  · rfl
  · rw [findK_shift]
/-- an entry in the memory: what waits stands in a block of S. -/
def NtS (w : World) (S : Nat → Prop) (v : Value) (x : Nw) : Prop :=
  ∃ g c, v = .agg #[.slice (some ⟨g, 0, none⟩) x.1.length c, .int .i64 (x.2 : Int)] ∧ S g ∧ g < w.heap.size ∧ x.1.length ≤ c ∧ Byt w w.heap.size (some ⟨g, 0, none⟩) x.1
theorem byt_heap {w w' : World} {B B' g : Nat} {l : List UInt8} (h : Byt w B (some ⟨g, 0, none⟩) l) (hk : w'.heap[g]? = w.heap[g]?) (hB : B ≤ B') : Byt w' B' (some ⟨g, 0, none⟩) l := fun hl => by
  obtain ⟨b, off, e, hb, hc⟩ := h hl
  cases e
  refine ⟨g, 0, rfl, by omega, fun i hi => ?_⟩
  have := hc i hi
  unfold World.cell? at this ⊢
  rw [hk]; exact this
theorem NtS.keep {w w' : World} {S S' : Nat → Prop} {v : Value} {x : Nw} (h : NtS w S v x) (hk : ∀ g, S g → g < w.heap.size → w'.heap[g]? = w.heap[g]?) (hs : w.heap.size ≤ w'.heap.size) (hS : ∀ g, S g → S' g) : NtS w' S' v x := by
  obtain ⟨g, c, e, hg, hl, hc, hb⟩ := h
  exact ⟨g, c, e, hS g hg, by omega, hc, byt_heap hb (hk g hg hl) hs⟩
/-- all entries. -/
def AllNt (w : World) (S : Nat → Prop) : List (Int × Value) → List (Int × Nw) → Prop
  | [], [] => True
  | a :: s, b :: t => a.1 = b.1 ∧ NtS w S a.2 b.2 ∧ AllNt w S s t
  | _, _ => False
theorem AllNt.keep {w w' : World} {S S' : Nat → Prop} (hk : ∀ g, S g → g < w.heap.size → w'.heap[g]? = w.heap[g]?) (hs : w.heap.size ≤ w'.heap.size) (hS : ∀ g, S g → S' g) : ∀ {V : List (Int × Value)} {L : List (Int × Nw)}, AllNt w S V L → AllNt w' S' V L
  | [], [], _ => trivial
  | a :: s, b :: t, h => ⟨h.1, h.2.1.keep hk hs hS, AllNt.keep hk hs hS h.2.2⟩
  | [], _ :: _, h => h.elim
  | _ :: _, [], h => h.elim
theorem AllNt.keys {w : World} {S : Nat → Prop} : ∀ {V : List (Int × Value)} {L : List (Int × Nw)}, AllNt w S V L → V.map (·.1) = L.map (·.1)
  | [], [], _ => rfl
  | a :: s, b :: t, h => by rw [List.map_cons, List.map_cons, h.1, AllNt.keys h.2.2]
  | [], _ :: _, h => h.elim
  | _ :: _, [], h => h.elim
theorem AllNt.len {w : World} {S : Nat → Prop} {V : List (Int × Value)} {L : List (Int × Nw)} (h : AllNt w S V L) : V.length = L.length := by
  have := congrArg List.length h.keys
  simpa using this
theorem AllNt.look {w : World} {S : Nat → Prop} (k : Int) : ∀ {V : List (Int × Value)} {L : List (Int × Nw)}, AllNt w S V L → (lookK V k = none ∧ lookQ k L = none) ∨ ∃ v x, lookK V k = some v ∧ lookQ k L = some x ∧ NtS w S v x
  | [], [], _ => .inl ⟨rfl, rfl⟩
  | a :: s, b :: t, h => by
    rw [lookK_cons]
    unfold lookQ
    by_cases e : k = b.1
    · rw [if_pos (by rw [h.1]; exact e), if_pos e]
      exact .inr ⟨_, _, rfl, rfl, h.2.1⟩
    · rw [if_neg (by rw [h.1]; exact e), if_neg e]
      exact AllNt.look k h.2.2
  | [], _ :: _, h => h.elim
  | _ :: _, [], h => h.elim
theorem AllNt.put {w : World} {S : Nat → Prop} {k : Int} {v : Value} {x : Nw} (hv : NtS w S v x) : ∀ {V : List (Int × Value)} {L : List (Int × Nw)}, AllNt w S V L → AllNt w S (putK k v V) (putQ k x L)
  | [], [], _ => ⟨rfl, hv, trivial⟩
  | a :: s, b :: t, h => by
    unfold putK putQ
    by_cases e : k = b.1
    · rw [if_pos (by rw [h.1]; exact e), if_pos e]
      exact ⟨rfl, hv, h.2.2⟩
    · rw [if_neg (by rw [h.1]; exact e), if_neg e]
      exact ⟨h.1, h.2.1, AllNt.put hv h.2.2⟩
  | [], _ :: _, h => h.elim
  | _ :: _, [], h => h.elim
theorem AllNt.drop {w : World} {S : Nat → Prop} {k : Int} : ∀ {V : List (Int × Value)} {L : List (Int × Nw)}, AllNt w S V L → AllNt w S (dropK k V) (dropQ k L)
  | [], [], _ => trivial
  | a :: s, b :: t, h => by
    unfold dropK dropQ
    by_cases e : k = b.1
    · rw [if_pos (by rw [h.1]; exact e), if_pos e]
      exact h.2.2
    · rw [if_neg (by rw [h.1]; exact e), if_neg e]
      exact ⟨h.1, h.2.1, AllNt.drop h.2.2⟩
  | [], _ :: _, h => h.elim
  | _ :: _, [], h => h.elim
/-- a queue. -/
structure QueS (w : World) (q mb : Nat) (most : Int) (L : List (Int × Nw)) (S : Nat → Prop) : Prop where
  row : w.heap[q]? = some (.cells #[.int .i64 most, .map (some mb)] 62 (0, 0))
  map : ∃ V, MapS w mb V ∧ AllNt w S V L
  ok : OkQ L
theorem QueS.lt {w : World} {q mb : Nat} {most : Int} {L : List (Int × Nw)} {S : Nat → Prop} (h : QueS w q mb most L S) : q < w.heap.size ∧ mb < w.heap.size :=
  ⟨(Array.getElem?_eq_some_iff.1 h.row).1, by obtain ⟨V, hV, _⟩ := h.map; exact hV.lt⟩
theorem QueS.ne {w : World} {q mb : Nat} {most : Int} {L : List (Int × Nw)} {S : Nat → Prop} (h : QueS w q mb most L S) : q ≠ mb := fun e => by
  obtain ⟨V, ⟨es, c, hb, _⟩, _⟩ := h.map
  have := h.row
  rw [e, hb] at this
  cases this
theorem QueS.keep {w w' : World} {q mb : Nat} {most : Int} {L : List (Int × Nw)} {S S' : Nat → Prop} (h : QueS w q mb most L S) (hk : ∀ i, i = q ∨ i = mb ∨ S i → i < w.heap.size → w'.heap[i]? = w.heap[i]?) (hs : w.heap.size ≤ w'.heap.size) (hS : ∀ g, S g → S' g) : QueS w' q mb most L S' := by
  have hl := h.lt
  obtain ⟨V, hV, hA⟩ := h.map
  exact ⟨(hk q (.inl rfl) hl.1).trans h.row, ⟨V, hV.of_heap (hk mb (.inr (.inl rfl)) hl.2), hA.keep (fun g hg hl => hk g (.inr (.inr hg)) hl) hs hS⟩, h.ok⟩
theorem QueS.below {w w' : World} {q mb : Nat} {most : Int} {L : List (Int × Nw)} {S : Nat → Prop} {B : Nat} (h : QueS w q mb most L S) (hb : Below B w w') (hB : w.heap.size ≤ B) : QueS w' q mb most L S :=
  h.keep (fun i _ hi => hb.block i (by omega)) hb.size (fun g hg => hg)
theorem QueS.bw {w : World} {q mb : Nat} {most : Int} {L : List (Int × Nw)} {S : Nat → Prop} (h : QueS w q mb most L S) (p : BW w) : QueS p.w q mb most L S := h.below p.below (Nat.le_refl _)
theorem QueS.drew {w : World} {q mb : Nat} {most : Int} {L : List (Int × Nw)} {S : Nat → Prop} (h : QueS w q mb most L S) : QueS w.drew q mb most L S := h.keep (fun _ _ _ => rfl) (Nat.le_refl _) (fun _ hg => hg)
theorem QueS.grown {w w' : World} {q mb : Nat} {most : Int} {L : List (Int × Nw)} {S : Nat → Prop} {r : Nat} (h : QueS w q mb most L S) (hg : w.grownBy w' (some r)) (h1 : r ≠ q) (h2 : r ≠ mb) (h3 : ¬ S r) : QueS w' q mb most L S :=
  h.keep (fun i hi hl => hg.block i hl (fun e => by
    cases e
    rcases hi with rfl | rfl | hi
    · exact h1 rfl
    · exact h2 rfl
    · exact h3 hi)) hg.size (fun g hg => hg)
theorem QueS.cells {w : World} {q mb : Nat} {most : Int} {L : List (Int × Nw)} {S : Nat → Prop} (h : QueS w q mb most L S) : w.cell? ⟨q, 0, none⟩ = some (.int .i64 most) ∧ w.cell? ⟨q, 1, none⟩ = some (.map (some mb)) :=
  ⟨(cell_of_row w q 0 _ _ (0, 0) h.row).trans rfl, (cell_of_row w q 1 _ _ (0, 0) h.row).trans rfl⟩
theorem zero_wait (w : World) : (zeroValue 73).run Try.prog w = .ok (.agg #[.slice none 0 0, .int .i64 0]) w := by kernel_rfl
/-- what a look finds. -/
theorem que_look {w : World} {q mb : Nat} {most : Int} {L : List (Int × Nw)} {S : Nat → Prop} (h : QueS w q mb most L S) (k : Int) :
    ∃ A c, (∀ ok, (Instr.lookup 57 (.map (some mb)) (.int .i64 k) ok).run Try.prog w = .ok (if ok then .tuple #[.agg #[.slice A (dataQ L k).length c, .int .i64 (leftQ L k : Int)], .bool (hasQ L k)] else .agg #[.slice A (dataQ L k).length c, .int .i64 (leftQ L k : Int)]) w) ∧
      Byt w w.heap.size A (dataQ L k) ∧ (A = none → c = 0) ∧ (dataQ L k).length ≤ c ∧ (hasQ L k = true → ∃ g, A = some ⟨g, 0, none⟩ ∧ S g ∧ g < w.heap.size) ∧ (hasQ L k = false → A = none) := by
  obtain ⟨V, hV, hA⟩ := h.map
  have hl := fun ok => hV.look (P := Try.prog) Try.underlying57 Try.underlying3 (zero_wait w) k ok
  rcases hA.look k with ⟨h1, h2⟩ | ⟨v, x, h1, h2, g, c, rfl, hg, hlt, hc, hb⟩
  · have e1 : dataQ L k = [] := by unfold dataQ; rw [h2]; rfl
    have e2 : leftQ L k = 0 := by unfold leftQ; rw [h2]; rfl
    have e3 : hasQ L k = false := by unfold hasQ; rw [h2]; rfl
    rw [e1, e2, e3]
    refine ⟨none, 0, fun ok => ?_, Byt.nil _ _ _, fun _ => rfl, Nat.le_refl _, (fun e => by cases e), fun _ => rfl⟩
    rw [hl ok, h1]; rfl
  · have e1 : dataQ L k = x.1 := by unfold dataQ; rw [h2]; rfl
    have e2 : leftQ L k = x.2 := by unfold leftQ; rw [h2]; rfl
    have e3 : hasQ L k = true := by unfold hasQ; rw [h2]; rfl
    rw [e1, e2, e3]
    refine ⟨some ⟨g, 0, none⟩, c, fun ok => ?_, hb, (fun e => by cases e), hc, fun _ => ⟨g, rfl, hg, hlt⟩, (fun e => by cases e)⟩
    rw [hl ok, h1]; rfl
theorem que_len {w : World} {q mb : Nat} {most : Int} {L : List (Int × Nw)} {S : Nat → Prop} (h : QueS w q mb most L S) (ty : TypeId) : (Builtin.len_ #[57] ty #[.map (some mb)]).run Try.prog w = .ok (.int .i64 (L.length : Int)) w := by
  obtain ⟨V, ⟨es, c, hb, hr, -⟩, hA⟩ := h.map
  have := run_lenM (P := Try.prog) Try.underlying57 hb hr ty
  rw [this, hA.len]
/-- a store. -/
theorem que_store {w : World} {q mb : Nat} {most : Int} {L : List (Int × Nw)} {S : Nat → Prop} (h : QueS w q mb most L S) (hm : ¬ S mb) (k : Int) (v : Value) (x : Nw) (hv : NtS w S v x) (hx : (-9223372036854775808 ≤ k ∧ k ≤ 9223372036854775807) ∧ 0 < x.1.length ∧ x.1.length ≤ 140737488355328 ∧ 1 ≤ x.2 ∧ x.2 ≤ 1000) :
    ∃ o, (Instr.mapUpdate 57 (.map (some mb)) (.int .i64 k) v).run Try.prog w = .ok () (w.putObj mb o) ∧ QueS (w.putObj mb o) q mb most (putQ k x L) S := by
  have hne := h.ne
  obtain ⟨V, hV, hA⟩ := h.map
  obtain ⟨o, e, hm2⟩ := hV.store (P := Try.prog) (t := 57) Try.underlying57 Try.underlying3 k v
  refine ⟨o, e, (World.putObj_heap_other hne).trans h.row, ⟨_, hm2, (hA.put hv).keep (fun g hg hl => World.putObj_heap_other (fun e => hm (by rw [← e]; exact hg))) (by simp) (fun g hg => hg)⟩, h.ok.put k x hx⟩
theorem que_del {w : World} {q mb : Nat} {most : Int} {L : List (Int × Nw)} {S : Nat → Prop} (h : QueS w q mb most L S) (hm : ¬ S mb) (k : Int) (ty : TypeId) :
    ∃ o, (Builtin.delete_ #[57, 3] ty #[.map (some mb), .int .i64 k]).run Try.prog w = .ok (.tuple #[]) (w.putObj mb o) ∧ QueS (w.putObj mb o) q mb most (dropQ k L) S := by
  have hne := h.ne
  obtain ⟨V, hV, hA⟩ := h.map
  obtain ⟨o, e, hm2⟩ := hV.del (P := Try.prog) (t := 57) Try.underlying57 Try.underlying3 k 3 ty
  refine ⟨o, e, (World.putObj_heap_other hne).trans h.row, ⟨_, hm2, hA.drop.keep (fun g hg hl => World.putObj_heap_other (fun e => hm (by rw [← e]; exact hg))) (by simp) (fun g hg => hg)⟩, h.ok.drop k⟩
theorem info_wait : (Try.prog.info? 73).map (·.size) = some 2 := by kernel_rfl
theorem rs_wait : rowSize Try.prog 73 = some 2 := by kernel_rfl
theorem rs_queue : rowSize Try.prog 59 = some 2 := by kernel_rfl
theorem rs_Queue : rowSize Try.prog 62 = some 2 := by kernel_rfl
theorem field0_wait (w : World) (a b : Value) : (Instr.field 73 (.agg #[a, b]) 0).run Try.prog w = .ok a w := by
  kernel_rfl
theorem field1_wait (w : World) (a b : Value) : (Instr.field 73 (.agg #[a, b]) 1).run Try.prog w = .ok b w := by
  kernel_rfl
end Go.Proofs.Ytajpibopknpmmaa
