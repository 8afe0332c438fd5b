/-
  Maps whose keys are whole numbers: looked up, stored into, counted; as the list of their entries. Nothing here speaks of one function.
-/
import Derived.Test.YtbkipfmnbfjkcaaBase
import Derived.MapKept
import Derived.RangeFuncRecord
namespace Go.Proofs.Ytbkipfmnbfjkcaa
open Go.RowKit Go.MapKept
set_option linter.unusedVariables false
set_option linter.unusedSimpArgs false

/-- the entries of a map, in the order in which they lie. -/
def Reads (es : Array MapEntry) (L : List (Int × Value)) : Prop := es.toList.map (fun e => (e.key, e.val)) = L.map (fun p => (Value.int .i64 p.1, p.2))
theorem Reads.size {es : Array MapEntry} {L : List (Int × Value)} (h : Reads es L) : es.size = L.length := by
  have := congrArg List.length h
  simpa using this
theorem Reads.nil : Reads #[] [] := rfl
/-- no two entries came in at one time, and all before now. -/
def Stamps (es : Array MapEntry) (c : Nat) : Prop := (es.toList.map (·.born)).Nodup ∧ ∀ x ∈ es.toList, x.born < c
theorem Stamps.nil (c : Nat) : Stamps #[] c := ⟨by simp, by simp⟩
theorem Stamps.push {es : Array MapEntry} {c : Nat} (h : Stamps es c) (e : MapEntry) (he : e.born = c) : Stamps (es.push e) (c + 1) := by
  refine ⟨?_, fun x hx => ?_⟩
  · rw [Array.toList_push, List.map_append, List.nodup_append]
    refine ⟨h.1, by simp, ?_⟩
    intro a ha b hb
    simp at hb
    obtain ⟨x, hx, rfl⟩ := List.mem_map.1 ha
    have := h.2 x hx
    omega
  · rw [Array.toList_push, List.mem_append] at hx
    rcases hx with hx | hx
    · have := h.2 x hx; omega
    · simp at hx; subst hx; omega
theorem Stamps.same {es es' : Array MapEntry} {c : Nat} (h : Stamps es c) (e : es'.toList.map (·.born) = es.toList.map (·.born)) : Stamps es' c := by
  refine ⟨by rw [e]; exact h.1, fun x hx => ?_⟩
  have : x.born ∈ es'.toList.map (·.born) := List.mem_map.2 ⟨x, hx, rfl⟩
  rw [e] at this
  obtain ⟨y, hy, e2⟩ := List.mem_map.1 this
  rw [← e2]; exact h.2 y hy
/-- where a key stands, and what it has. -/
def findK (k : Int) : List (Int × Value) → Nat → Option (Nat × Value)
  | [], _ => none
  | p :: t, i => if k = p.1 then some (i, p.2) else findK k t (i + 1)
theorem findNow_reads (k : Int) : ∀ (es : List MapEntry) (L : List (Int × Value)) (i : Nat), es.map (fun e => (e.key, e.val)) = L.map (fun p => (Value.int .i64 p.1, p.2)) →
    Instr.findNow (.int .i64) (.int .i64 k) es i = some (findK k L i)
  | [], [], i, _ => rfl
  | [], _ :: _, i, h => by simp at h
  | _ :: _, [], i, h => by simp at h
  | e :: es, p :: L, i, h => by
    simp only [List.map_cons, List.cons.injEq, Prod.mk.injEq] at h
    obtain ⟨⟨h1, h2⟩, h3⟩ := h
    unfold Instr.findNow findK
    rw [h1]
    by_cases e1 : k = p.1
    · simp [Instr.sameNow, e1, h2]
    · simp only [Instr.sameNow, if_true, if_neg e1]
      have : (k == p.1) = false := by simpa using e1
      rw [this]
      exact findNow_reads k es L (i + 1) h3
theorem findK_lt {k : Int} : ∀ {L : List (Int × Value)} {i j : Nat} {v : Value}, findK k L i = some (j, v) → i ≤ j ∧ j - i < L.length ∧ L[j - i]? = some (k, v)
  | [], i, j, v, h => by simp [findK] at h
  | p :: L, i, j, v, h => by
    unfold findK at h
    split at h
    · next e =>
      simp only [Option.some.injEq, Prod.mk.injEq] at h
      obtain ⟨rfl, rfl⟩ := h
      refine ⟨Nat.le_refl _, by simp, ?_⟩
      rw [Nat.sub_self, e]; rfl
    · obtain ⟨h1, h2, h3⟩ := findK_lt h
      refine ⟨by omega, by simp; omega, ?_⟩
      rw [show j - i = (j - (i + 1)) + 1 by omega]
      simpa using h3
def lookK (L : List (Int × Value)) (k : Int) : Option Value := (findK k L 0).map (·.2)
theorem run_look {P : Program} {w : World} {t kt e : TypeId} {b : Nat} {es : Array MapEntry} {clock : Nat} {L : List (Int × Value)} {z : Value} (ht : P.underlying t = some (.map kt e)) (hk : P.underlying kt = some (.int .i64)) (hz : (zeroValue e).run P w = .ok z w)
    (hb : w.heap[b]? = some (.map es clock)) (hr : Reads es L) (k : Int) (ok : Bool) :
    (Instr.lookup t (.map (some b)) (.int .i64 k) ok).run P w = .ok (if ok then .tuple #[(lookK L k).getD z, .bool (lookK L k).isSome] else (lookK L k).getD z) w := by
  have h1 := run_checkKey (w := w) hk (show IsKey (.int .i64) (.int .i64 k) from rfl) es.isEmpty 9999
  have h2 := run_findKey (w := w) hk (findNow_reads k es.toList L 0 hr)
  have hg : (getObj b).run P w = .ok (.map es clock) w := by simp [getObj, Sem.run, hb]
  unfold Instr.lookup lookK
  cases hf : findK k L 0 with
  | none => simp [Sem.run_bind, run_underlying ht, hg, Result.andThen, h1, h2, hf, hz]
  | some q => simp [Sem.run_bind, run_underlying ht, hg, Result.andThen, h1, h2, hf]
/-- what is there behind a store. -/
def putK (k : Int) (v : Value) : List (Int × Value) → List (Int × Value)
  | [] => [(k, v)]
  | p :: t => if k = p.1 then (k, v) :: t else p :: putK k v t
theorem putK_hit {k : Int} {v : Value} : ∀ {L : List (Int × Value)} {i j : Nat} {u : Value}, findK k L i = some (j, u) → putK k v L = L.set (j - i) (k, v)
  | [], i, j, u, h => by simp [findK] at h
  | p :: L, i, j, u, h => by
    have hl := findK_lt h
    unfold findK at h
    unfold putK
    split at h
    · next e =>
      simp only [Option.some.injEq, Prod.mk.injEq] at h
      obtain ⟨rfl, _⟩ := h
      rw [if_pos e, Nat.sub_self]; rfl
    · next e =>
      obtain ⟨h1, h2, h3⟩ := findK_lt h
      rw [if_neg e, putK_hit (v := v) h, show j - i = (j - (i + 1)) + 1 by omega]; rfl
theorem putK_miss {k : Int} {v : Value} : ∀ {L : List (Int × Value)} {i : Nat}, findK k L i = none → putK k v L = L ++ [(k, v)]
  | [], i, h => rfl
  | p :: L, i, h => by
    unfold findK at h
    unfold putK
    split at h
    · cases h
    · next e => rw [if_neg e, putK_miss h]; rfl
theorem run_store {P : Program} {w : World} {t kt e : TypeId} {b : Nat} {es : Array MapEntry} {clock : Nat} {L : List (Int × Value)} (ht : P.underlying t = some (.map kt e)) (hk : P.underlying kt = some (.int .i64))
    (hb : w.heap[b]? = some (.map es clock)) (hr : Reads es L) (hst : Stamps es clock) (k : Int) (v : Value) :
    ∃ es' clock', (Instr.mapUpdate t (.map (some b)) (.int .i64 k) v).run P w = .ok () (w.putObj b (.map es' clock')) ∧ Reads es' (putK k v L) ∧ Stamps es' clock' := by
  have h1 := run_checkKey (w := w) hk (show IsKey (.int .i64) (.int .i64 k) from rfl) false 9999
  have h2 := run_findKey (w := w) hk (findNow_reads k es.toList L 0 hr)
  have hg : (getObj b).run P w = .ok (.map es clock) w := by simp [getObj, Sem.run, hb]
  have hs : ∀ o, (setObj b o).run P w = .ok () (w.putObj b o) := fun o => by simp [setObj, Sem.run, hb, World.putObj]
  cases hf : findK k L 0 with
  | none =>
    refine ⟨es.push { key := .int .i64 k, val := v, born := clock }, clock + 1, ?_, ?_, hst.push _ rfl⟩
    · unfold Instr.mapUpdate
      simp [Sem.run_bind, run_underlying ht, hg, Result.andThen, h1, h2, hf, hs]
    · rw [putK_miss hf]
      unfold Reads at hr ⊢
      simp [hr]
  | some q =>
    obtain ⟨i, u⟩ := q
    obtain ⟨h3, h4, h5⟩ := findK_lt hf
    rw [Nat.sub_zero] at h4 h5
    have hsz := hr.size
    have hi : i < es.size := by omega
    have hkey : es[i].key = .int .i64 k := by
      have := congrArg (fun l => l[i]?) hr
      simp only [List.getElem?_map] at this
      rw [h5, Array.getElem?_toList, Array.getElem?_eq_getElem hi] at this
      simp only [Option.map_some, Option.some.injEq, Prod.mk.injEq] at this
      exact this.1
    refine ⟨es.modify i fun e => { e with key := .int .i64 k, val := v }, clock, ?_, ?_, hst.same (by
      apply List.ext_getElem?
      intro j
      simp only [List.getElem?_map, Array.getElem?_toList, Array.getElem?_modify]
      by_cases e : i = j
      · rw [if_pos e, Option.map_map]; rfl
      · rw [if_neg e])⟩
    · have hk2 : (Instr.keyThatStays (.int .i64 k) (.int .i64 k)).run P w = .ok (.int .i64 k) w := by
        unfold Instr.keyThatStays
        have : Instr.sameBits 10000 (.int .i64 k) (.int .i64 k) = true := by simp [Instr.sameBits]
        simp [this]
      unfold Instr.mapUpdate
      simp [Sem.run_bind, run_underlying ht, hg, Result.andThen, h1, h2, hf, hs, Array.getElem?_eq_getElem hi, hkey, hk2]
    · rw [putK_hit hf, Nat.sub_zero]
      unfold Reads at hr ⊢
      apply List.ext_getElem?
      intro j
      have hrj := congrArg (fun l => l[j]?) hr
      simp only [List.getElem?_map, Array.getElem?_toList] at hrj ⊢
      rw [Array.getElem?_modify, List.getElem?_set]
      by_cases e : i = j
      · subst e
        rw [if_pos rfl, if_pos rfl, if_pos h4, Array.getElem?_eq_getElem hi]; rfl
      · rw [if_neg e, if_neg e]; exact hrj
theorem run_lenM {P : Program} {w : World} {t kt e : TypeId} {b : Nat} {es : Array MapEntry} {clock : Nat} {L : List (Int × Value)} (ht : P.underlying t = some (.map kt e)) (hb : w.heap[b]? = some (.map es clock)) (hr : Reads es L) (ty : TypeId) :
    (Builtin.len_ #[t] ty #[.map (some b)]).run P w = .ok (.int .i64 (L.length : Int)) w := by
  have hg : (getObj b).run P w = .ok (.map es clock) w := by simp [getObj, Sem.run, hb]
  simp [Builtin.len_, Sem.run_bind, run_underlying ht, hg, Result.andThen, hr.size, goInt]
/-- a map in the memory. -/
def MapS (w : World) (b : Nat) (L : List (Int × Value)) : Prop := ∃ es clock, w.heap[b]? = some (.map es clock) ∧ Reads es L ∧ Stamps es clock
theorem MapS.lt {w : World} {b : Nat} {L : List (Int × Value)} (h : MapS w b L) : b < w.heap.size := by
  obtain ⟨es, c, h, _⟩ := h
  exact (Array.getElem?_eq_some_iff.1 h).1
theorem MapS.of_heap {w w' : World} {b : Nat} {L : List (Int × Value)} (h : MapS w b L) (e : w'.heap[b]? = w.heap[b]?) : MapS w' b L := by
  obtain ⟨es, c, h, hr⟩ := h
  exact ⟨es, c, e.trans h, hr⟩
theorem MapS.look {P : Program} {w : World} {t kt e : TypeId} {b : Nat} {L : List (Int × Value)} {z : Value} (h : MapS w b L) (ht : P.underlying t = some (.map kt e)) (hk : P.underlying kt = some (.int .i64)) (hz : (zeroValue e).run P w = .ok z w) (k : Int) (ok : Bool) :
    (Instr.lookup t (.map (some b)) (.int .i64 k) ok).run P w = .ok (if ok then .tuple #[(lookK L k).getD z, .bool (lookK L k).isSome] else (lookK L k).getD z) w := by
  obtain ⟨es, c, h, hr, -⟩ := h
  exact run_look ht hk hz h hr k ok
theorem MapS.store {P : Program} {w : World} {t kt e : TypeId} {b : Nat} {L : List (Int × Value)} (h : MapS w b L) (ht : P.underlying t = some (.map kt e)) (hk : P.underlying kt = some (.int .i64)) (k : Int) (v : Value) :
    ∃ o, (Instr.mapUpdate t (.map (some b)) (.int .i64 k) v).run P w = .ok () (w.putObj b o) ∧ MapS (w.putObj b o) b (putK k v L) := by
  have hlt := h.lt
  obtain ⟨es, c, h, hr, hst⟩ := h
  obtain ⟨es', c', h1, h2⟩ := run_store ht hk h hr hst k v
  exact ⟨_, h1, es', c', World.putObj_heap_same hlt, h2⟩
theorem grown_putObj (w : World) (b : Nat) (o : Obj) : w.grownBy (w.putObj b o) (some b) :=
  ⟨rfl, rfl, rfl, by simp, fun k _ hk => World.putObj_heap_other (fun e => hk (by rw [e]))⟩
/-- whole numbers from i on, one behind the other. -/
def seqL {α : Type} (f : α → Value) : Nat → List α → List (Int × Value)
  | _, [] => []
  | i, a :: t => ((i : Int), f a) :: seqL f (i + 1) t
theorem findK_seq {α : Type} (f : α → Value) (k : Int) : ∀ (l : List α) (i j : Nat), findK k (seqL f i l) j = if h : (i : Int) ≤ k ∧ k < (i : Int) + l.length then some (j + (k.toNat - i), f (l[k.toNat - i]'(by omega))) else none
  | [], i, j => by
    have : ¬ ((i : Int) ≤ k ∧ k < (i : Int) + ([] : List α).length) := by simp
    rw [dif_neg this]; rfl
  | a :: t, i, j => by
    unfold seqL findK
    by_cases e : k = (i : Int)
    · rw [if_pos e, dif_pos ⟨by omega, by simp; omega⟩]
      subst e
      simp
    · rw [if_neg e, findK_seq f k t (i + 1) (j + 1)]
      by_cases h : ((i + 1 : Nat) : Int) ≤ k ∧ k < ((i + 1 : Nat) : Int) + t.length
      · rw [dif_pos h, dif_pos ⟨by omega, by simp; omega⟩]
        have e2 : k.toNat - i = (k.toNat - (i + 1)) + 1 := by omega
        simp only [e2, List.getElem_cons_succ]
        congr 2; omega
      · rw [dif_neg h, dif_neg (by simp; omega)]
theorem look_seq {α : Type} (f : α → Value) (l : List α) (k : Int) : lookK (seqL f 0 l) k = if 0 ≤ k then (l[k.toNat]?).map f else none := by
  unfold lookK
  rw [findK_seq]
  by_cases h : 0 ≤ k
  · rw [if_pos h]
    by_cases h2 : k < (l.length : Int)
    · rw [dif_pos ⟨by omega, by omega⟩, List.getElem?_eq_getElem (by omega)]
      simp
    · rw [dif_neg (by omega), List.getElem?_eq_none (by omega)]; rfl
  · rw [if_neg h, dif_neg (by omega)]; rfl
theorem seq_len {α : Type} (f : α → Value) : ∀ (i : Nat) (l : List α), (seqL f i l).length = l.length
  | _, [] => rfl
  | i, a :: t => by simp [seqL, seq_len f (i + 1) t]
theorem put_seq {α : Type} (f : α → Value) (k : Nat) (a : α) : ∀ (i : Nat) (l : List α), i ≤ k → k - i < l.length → putK (k : Int) (f a) (seqL f i l) = seqL f i (l.set (k - i) a)
  | i, [], h1, h2 => by simp at h2
  | i, b :: t, h1, h2 => by
    unfold seqL putK
    by_cases e : k = i
    · subst e; simp
    · rw [if_neg (by omega), put_seq f k a (i + 1) t (by omega) (by simp at h2; omega), show k - i = (k - (i + 1)) + 1 by omega]; rfl
theorem put_seq_end {α : Type} (f : α → Value) (a : α) : ∀ (i : Nat) (l : List α), putK ((i + l.length : Nat) : Int) (f a) (seqL f i l) = seqL f i (l ++ [a])
  | i, [] => by simp [seqL, putK]
  | i, b :: t => by
    unfold seqL putK
    rw [if_neg (by simp; omega), show i + (b :: t).length = (i + 1) + t.length by simp; omega, put_seq_end f a (i + 1) t]; rfl
/-- a value handed back, all else as it was. -/
def RetV (w : World) (v : Value) (e : Ending) (w' : World) : Prop := e = .returned v ∧ Below w.heap.size w w'
theorem alloc_nm (w : World) (o : Obj) : ∃ W, w.alloc o = W ∧ W.heap[w.heap.size]? = some o ∧ W.heap.size = w.heap.size + 1 ∧ Below w.heap.size w W := by
  refine ⟨_, rfl, heap_alloc_new _ _, by simp, (Below.refl _ _).alloc (Nat.le_refl _) _⟩
theorem grown_ofB {w w' : World} (h : Below w.heap.size w w') (row : Option Nat) : w.grownBy w' row := ⟨h.os, h.tape, h.output, h.size, fun k hk _ => h.block k hk⟩
theorem below_putObj {B b : Nat} {w0 w : World} (h : Below B w0 w) (hb : B ≤ b) (o : Obj) : Below B w0 (w.putObj b o) :=
  h.trans ⟨rfl, rfl, rfl, by simp, fun k hk => World.putObj_heap_other (by omega)⟩
theorem grown_drew (w : World) (r : Option Nat) : w.grownBy w.drew r := ⟨rfl, rfl, rfl, Nat.le_refl _, fun _ _ _ => rfl⟩
end Go.Proofs.Ytbkipfmnbfjkcaa
