/-
  Maps whatever their keys: looked up, stored into, struck from, counted, walked; as the list of their entries. Nothing here speaks of one function.
-/
import Derived.Test.YtbkipfmnbfjkcaaMp
import Derived.Maps.RangeWalk
import Derived.WideKeyRuns
namespace Go.Proofs.Ytbkipfmnbfjkcaa
open Go.RowKit Go.MapKept
open Go.ChangeMaps (setBlock)
set_option linter.unusedVariables false
set_option linter.unusedSimpArgs false
set_option linter.unusedSectionVars false

/-- keys of a type: written as values. -/
structure KeyLaw {κ : Type} [DecidableEq κ] (P : Program) (kt : TypeId) (enc : κ → Value) : Prop where
  chk : ∀ k em w, (Instr.checkKey em 10000 kt (enc k)).run P w = .ok () w
  eq : ∀ a b w, (Op.equal kt (enc a) (enc b)).run P w = .ok (decide (a = b)) w
  wide : (match P.underlying kt with | some (.array _ _) | some (.struct _) => true | _ => false) = true
  stay : ∀ k, Instr.sameBits 10000 (enc k) (enc k) = true

section
variable {κ : Type} [DecidableEq κ] {enc : κ → Value}
def ReadsG (enc : κ → Value) (es : Array MapEntry) (L : List (κ × Value)) : Prop := es.toList.map (fun e => (e.key, e.val)) = L.map (fun p => (enc p.1, p.2))
theorem ReadsG.size {es : Array MapEntry} {L : List (κ × Value)} (h : ReadsG enc es L) : es.size = L.length := by
  have := congrArg List.length h
  simpa using this
def findM (k : κ) : List (κ × Value) → Nat → Option (Nat × Value)
  | [], _ => none
  | p :: t, i => if k = p.1 then some (i, p.2) else findM k t (i + 1)
theorem findAsking_reads {P : Program} {kt : TypeId} (H : KeyLaw P kt enc) (k : κ) (w : World) : ∀ (es : List MapEntry) (L : List (κ × Value)) (i : Nat), es.map (fun e => (e.key, e.val)) = L.map (fun p => (enc p.1, p.2)) →
    (Instr.findAsking kt (enc k) es i).run P w = .ok (findM k L i) w
  | [], [], i, _ => rfl
  | [], _ :: _, i, h => by simp at h
  | _ :: _, [], i, h => by simp at h
  | e :: es, p :: L, i, h => by
    simp only [List.map_cons, List.cons.injEq, Prod.mk.injEq] at h
    obtain ⟨⟨h1, h2⟩, h3⟩ := h
    unfold Instr.findAsking findM
    rw [h1]
    by_cases e1 : k = p.1
    · subst e1
      simp [Sem.run_bind, H.eq, Result.andThen, h2]
    · rw [if_neg e1]
      simp [Sem.run_bind, H.eq, Result.andThen, e1]
      exact findAsking_reads H k w es L (i + 1) h3
theorem findM_lt {k : κ} : ∀ {L : List (κ × Value)} {i j : Nat} {v : Value}, findM k L i = some (j, v) → i ≤ j ∧ j - i < L.length ∧ L[j - i]? = some (k, v)
  | [], i, j, v, h => by simp [findM] at h
  | p :: L, i, j, v, h => by
    unfold findM at h
    split at h
    · next e =>
      simp only [Option.some.injEq, Prod.mk.injEq] at h
      obtain ⟨rfl, rfl⟩ := h
      refine ⟨Nat.le_refl _, by simp, ?_⟩
      rw [Nat.sub_self, e]; rfl
    · obtain ⟨h1, h2, h3⟩ := findM_lt h
      refine ⟨by omega, by simp; omega, ?_⟩
      rw [show j - i = (j - (i + 1)) + 1 by omega]
      simpa using h3
def lookGm (L : List (κ × Value)) (k : κ) : Option Value := (findM k L 0).map (·.2)
theorem findM_shift (k : κ) : ∀ (L : List (κ × Value)) (i : Nat), (findM k L i).map (·.2) = (L.find? (fun p => decide (k = p.1))).map (·.2)
  | [], i => rfl
  | p :: L, i => by
    unfold findM
    by_cases e : k = p.1
    · rw [if_pos e]; simp [e]
    · rw [if_neg e, findM_shift k L (i + 1), List.find?_cons_of_neg (by simpa using e)]
theorem lookGm_find (L : List (κ × Value)) (k : κ) : lookGm L k = (L.find? (fun p => decide (k = p.1))).map (·.2) := findM_shift k L 0
def putM (k : κ) (v : Value) : List (κ × Value) → List (κ × Value)
  | [] => [(k, v)]
  | p :: t => if k = p.1 then (k, v) :: t else p :: putM k v t
theorem putM_hit {k : κ} {v : Value} : ∀ {L : List (κ × Value)} {i j : Nat} {u : Value}, findM k L i = some (j, u) → putM k v L = L.set (j - i) (k, v)
  | [], i, j, u, h => by simp [findM] at h
  | p :: L, i, j, u, h => by
    unfold findM at h
    unfold putM
    split at h
    · next e =>
      simp only [Option.some.injEq, Prod.mk.injEq] at h
      obtain ⟨rfl, _⟩ := h
      rw [if_pos e, Nat.sub_self]; rfl
    · next e =>
      obtain ⟨h1, h2, h3⟩ := findM_lt h
      rw [if_neg e, putM_hit (v := v) h, show j - i = (j - (i + 1)) + 1 by omega]; rfl
theorem putM_miss {k : κ} {v : Value} : ∀ {L : List (κ × Value)} {i : Nat}, findM k L i = none → putM k v L = L ++ [(k, v)]
  | [], i, h => rfl
  | p :: L, i, h => by
    unfold findM at h
    unfold putM
    split at h
    · cases h
    · next e => rw [if_neg e, putM_miss h]; rfl
def dropM (k : κ) : List (κ × Value) → List (κ × Value)
  | [] => []
  | p :: t => if k = p.1 then t else p :: dropM k t
theorem dropM_hit {k : κ} : ∀ {L : List (κ × Value)} {i j : Nat} {u : Value}, findM k L i = some (j, u) → dropM k L = L.eraseIdx (j - i)
  | [], i, j, u, h => by simp [findM] at h
  | p :: L, i, j, u, h => by
    unfold findM at h
    unfold dropM
    split at h
    · next e =>
      simp only [Option.some.injEq, Prod.mk.injEq] at h
      obtain ⟨rfl, _⟩ := h
      rw [if_pos e, Nat.sub_self]; rfl
    · next e =>
      obtain ⟨h1, h2, h3⟩ := findM_lt h
      rw [if_neg e, dropM_hit h, show j - i = (j - (i + 1)) + 1 by omega]; rfl
theorem dropM_miss {k : κ} : ∀ {L : List (κ × Value)} {i : Nat}, findM k L i = none → dropM k L = L
  | [], i, h => rfl
  | p :: L, i, h => by
    unfold findM at h
    unfold dropM
    split at h
    · cases h
    · next e => rw [if_neg e, dropM_miss h]
/-- a map in the memory. -/
def MapG (enc : κ → Value) (w : World) (b : Nat) (L : List (κ × Value)) : Prop := ∃ es clock, w.heap[b]? = some (.map es clock) ∧ ReadsG enc es L ∧ Stamps es clock
theorem MapG.lt {w : World} {b : Nat} {L : List (κ × Value)} (h : MapG enc w b L) : b < w.heap.size := by
  obtain ⟨es, c, h, _⟩ := h
  exact (Array.getElem?_eq_some_iff.1 h).1
theorem MapG.of_heap {w w' : World} {b : Nat} {L : List (κ × Value)} (h : MapG enc w b L) (e : w'.heap[b]? = w.heap[b]?) : MapG enc w' b L := by
  obtain ⟨es, c, h, hr⟩ := h
  exact ⟨es, c, e.trans h, hr⟩
theorem MapG.below {w w' : World} {b : Nat} {L : List (κ × Value)} (h : MapG enc w b L) (hb : Below w.heap.size w w') : MapG enc w' b L := h.of_heap (hb.block _ h.lt)
section
variable {P : Program} {w : World} {t kt e : TypeId} {b : Nat} {L : List (κ × Value)} {z : Value}
theorem MapG.look (h : MapG enc w b L) (H : KeyLaw P kt enc) (ht : P.underlying t = some (.map kt e)) (hz : (zeroValue e).run P w = .ok z w) (k : κ) (ok : Bool) :
    (Instr.lookup t (.map (some b)) (enc k) ok).run P w = .ok (if ok then .tuple #[(lookGm L k).getD z, .bool (lookGm L k).isSome] else (lookGm L k).getD z) w := by
  obtain ⟨es, c, hb, hr, -⟩ := h
  have h1 := H.chk k es.isEmpty w
  have h2 : (Instr.findKey kt (enc k) es.toList).run P w = .ok (findM k L 0) w := by rw [run_findKey_eq w H.wide]; exact findAsking_reads H k w es.toList L 0 hr
  have hg : (getObj b).run P w = .ok (.map es c) w := by simp [getObj, Sem.run, hb]
  unfold Instr.lookup lookGm
  cases hf : findM k L 0 with
  | none => simp [Sem.run_bind, run_underlying ht, hg, Result.andThen, h1, h2, hf, hz]
  | some q => simp [Sem.run_bind, run_underlying ht, hg, Result.andThen, h1, h2, hf]
theorem MapG.store (h : MapG enc w b L) (H : KeyLaw P kt enc) (ht : P.underlying t = some (.map kt e)) (k : κ) (v : Value) :
    ∃ o, (Instr.mapUpdate t (.map (some b)) (enc k) v).run P w = .ok () (w.putObj b o) ∧ MapG enc (w.putObj b o) b (putM k v L) := by
  have hlt := h.lt
  obtain ⟨es, c, hb, hr, hst⟩ := h
  have h1 := H.chk k false w
  have h2 : (Instr.findKey kt (enc k) es.toList).run P w = .ok (findM k L 0) w := by rw [run_findKey_eq w H.wide]; exact findAsking_reads H k w es.toList L 0 hr
  have hg : (getObj b).run P w = .ok (.map es c) w := by simp [getObj, Sem.run, hb]
  have hs : ∀ o, (setObj b o).run P w = .ok () (w.putObj b o) := fun o => by simp [setObj, Sem.run, hb, World.putObj]
  cases hf : findM k L 0 with
  | none =>
    refine ⟨.map (es.push { key := enc k, val := v, born := c }) (c + 1), ?_, _, _, World.putObj_heap_same hlt, ?_, hst.push _ rfl⟩
    · unfold Instr.mapUpdate
      simp [Sem.run_bind, run_underlying ht, hg, Result.andThen, h1, h2, hf, hs]
    · rw [putM_miss hf]
      unfold ReadsG at hr ⊢
      simp [hr]
  | some q =>
    obtain ⟨i, u⟩ := q
    obtain ⟨h3, h4, h5⟩ := findM_lt hf
    rw [Nat.sub_zero] at h4 h5
    have hsz := hr.size
    have hi : i < es.size := by omega
    have hkey : es[i].key = enc k := by
      have := congrArg (fun l => l[i]?) hr
      simp only [List.getElem?_map] at this
      rw [h5, Array.getElem?_toList, Array.getElem?_eq_getElem hi] at this
      simp only [Option.map_some, Option.some.injEq, Prod.mk.injEq] at this
      exact this.1
    have hborn : (es.modify i fun e => { e with key := enc k, val := v }).toList.map (·.born) = es.toList.map (·.born) := by
      apply List.ext_getElem?
      intro j
      simp only [List.getElem?_map, Array.getElem?_toList, Array.getElem?_modify]
      by_cases e : i = j
      · rw [if_pos e, Option.map_map]; rfl
      · rw [if_neg e]
    refine ⟨.map (es.modify i fun e => { e with key := enc k, val := v }) c, ?_, _, _, World.putObj_heap_same hlt, ?_, hst.same hborn⟩
    · have hk2 : (Instr.keyThatStays (enc k) (enc k)).run P w = .ok (enc k) w := by
        unfold Instr.keyThatStays
        simp [H.stay k]
      unfold Instr.mapUpdate
      simp [Sem.run_bind, run_underlying ht, hg, Result.andThen, h1, h2, hf, hs, Array.getElem?_eq_getElem hi, hkey, hk2]
    · rw [putM_hit hf, Nat.sub_zero]
      unfold ReadsG at hr ⊢
      apply List.ext_getElem?
      intro j
      have hrj := congrArg (fun l => l[j]?) hr
      simp only [List.getElem?_map, Array.getElem?_toList] at hrj ⊢
      rw [Array.getElem?_modify, List.getElem?_set]
      by_cases e : i = j
      · subst e
        rw [if_pos rfl, if_pos rfl, if_pos h4, Array.getElem?_eq_getElem hi]; rfl
      · rw [if_neg e, if_neg e]; exact hrj
theorem MapG.len (h : MapG enc w b L) (ht : P.underlying t = some (.map kt e)) (ty : TypeId) : (Builtin.len_ #[t] ty #[.map (some b)]).run P w = .ok (.int .i64 (L.length : Int)) w := by
  obtain ⟨es, c, hb, hr, -⟩ := h
  have hg : (getObj b).run P w = .ok (.map es c) w := by simp [getObj, Sem.run, hb]
  simp [Builtin.len_, Sem.run_bind, run_underlying ht, hg, Result.andThen, hr.size, goInt]
end
theorem map_eraseG {α β : Type} (f : α → β) : ∀ (l : List α) (i : Nat), (l.eraseIdx i).map f = (l.map f).eraseIdx i
  | [], i => by simp
  | a :: t, 0 => by simp
  | a :: t, i + 1 => by simp [map_eraseG f t i]
/-- a map struck of an entry. -/
theorem MapG.del {P : Program} {w : World} {t kt e : TypeId} {b : Nat} {L : List (κ × Value)} (h : MapG enc w b L) (H : KeyLaw P kt enc) (ht : P.underlying t = some (.map kt e)) (k : κ) (t2 ty : TypeId) :
    ∃ es es' c, w.heap[b]? = some (.map es c) ∧ (Builtin.delete_ #[t, t2] ty #[.map (some b), enc k]).run P w = .ok (.tuple #[]) (w.putObj b (.map es' c)) ∧ ReadsG enc es L ∧ ReadsG enc es' (dropM k L) ∧ Stamps es c ∧ Stamps es' c ∧
      (es' = es ∨ ∃ i, i < es.size ∧ es' = es.eraseIdxIfInBounds i ∧ es[i]?.map (·.key) = some (enc k)) := by
  have hlt := h.lt
  obtain ⟨es, c, hb, hr, hst⟩ := h
  have h1 := H.chk k es.isEmpty w
  have h2 : (Instr.findKey kt (enc k) es.toList).run P w = .ok (findM k L 0) w := by rw [run_findKey_eq w H.wide]; exact findAsking_reads H k w es.toList L 0 hr
  have hg : (getObj b).run P w = .ok (.map es c) w := by simp [getObj, Sem.run, hb]
  have hs : ∀ o, (setObj b o).run P w = .ok () (w.putObj b o) := fun o => by simp [setObj, Sem.run, hb, World.putObj]
  have hpo : w.putObj b (.map es c) = w := by
    unfold World.putObj
    have : w.heap.setIfInBounds b (.map es c) = w.heap := by
      apply Array.ext_getElem?
      intro j
      rw [Array.getElem?_setIfInBounds]
      by_cases e : b = j
      · subst e; rw [if_pos rfl, if_pos hlt, hb]
      · rw [if_neg e]
    simp [this]
  cases hf : findM k L 0 with
  | none =>
    refine ⟨es, es, c, hb, ?_, hr, by rw [dropM_miss hf]; exact hr, hst, hst, .inl rfl⟩
    rw [hpo]
    unfold Builtin.delete_
    simp [Sem.run_bind, run_underlying ht, hg, Result.andThen, h1, h2, hf, hs, hpo]
  | some q =>
    obtain ⟨i, u⟩ := q
    obtain ⟨h3, h4, h5⟩ := findM_lt hf
    rw [Nat.sub_zero] at h4 h5
    refine ⟨es, es.eraseIdxIfInBounds i, c, hb, ?_, hr, ?_, hst, ?_, .inr ⟨i, by rw [hr.size]; exact h4, rfl, ?_⟩⟩
    · unfold Builtin.delete_
      simp [Sem.run_bind, run_underlying ht, hg, Result.andThen, h1, h2, hf, hs]
    · rw [dropM_hit hf, Nat.sub_zero]
      unfold ReadsG at hr ⊢
      rw [show (es.eraseIdxIfInBounds i).toList = es.toList.eraseIdx i by simp, map_eraseG, hr, ← map_eraseG]
    · have e : (es.eraseIdxIfInBounds i).toList = es.toList.eraseIdx i := by simp
      refine ⟨?_, fun x hx => ?_⟩
      · rw [e]; exact ((List.eraseIdx_sublist _ _).map _).nodup hst.1
      · rw [e] at hx; exact hst.2 x ((List.eraseIdx_sublist _ _).mem hx)
    · have := congrArg (fun l => l[i]?) hr
      simp only [List.getElem?_map] at this
      rw [h5, Array.getElem?_toList] at this
      cases hei : es[i]? with
      | none => rw [hei] at this; simp at this
      | some x => rw [hei] at this; simp at this; simp [this.1]
theorem born_oneG {es : Array MapEntry} {c : Nat} (h : Stamps es c) {x e : MapEntry} (hx : x ∈ es.toList) (he : e ∈ es.toList) (hb : x.born = e.born) : x = e := by
  have h1 := find_born e es.toList h.1 he
  have h2 := find_born x es.toList h.1 hx
  rw [hb, h1] at h2
  exact (Option.some.inj h2).symm
/-- the entries that have come. -/
def cameG (es : Array MapEntry) (seen : Array Nat) : List MapEntry := es.toList.filter (fun e => seen.contains e.born)
theorem came_push {es : Array MapEntry} {c : Nat} (h : Stamps es c) {seen : Array Nat} {e : MapEntry} (he : e ∈ es.toList) (hs : seen.contains e.born = false) : (cameG es (seen.push e.born)).Perm (e :: cameG es seen) := by
  unfold cameG
  have hnd := h.1
  have key : ∀ (l : List MapEntry), (l.map (·.born)).Nodup → e ∈ l → (l.filter (fun x => (seen.push e.born).contains x.born)).Perm (e :: l.filter (fun x => seen.contains x.born)) := by
    intro l
    induction l with
    | nil => intro _ h; cases h
    | cons a t ih =>
      intro hn hm
      simp only [List.map_cons, List.nodup_cons] at hn
      rcases List.mem_cons.1 hm with rfl | hm'
      · rw [List.filter_cons_of_pos (by rw [contains_push]; simp), List.filter_cons_of_neg (by rw [hs]; simp)]
        have : t.filter (fun x => (seen.push e.born).contains x.born) = t.filter (fun x => seen.contains x.born) := by
          refine List.filter_congr fun x hx => ?_
          rw [contains_push]
          have : (x.born == e.born) = false := by
            have : x.born ≠ e.born := fun e1 => hn.1 (by rw [← e1]; exact List.mem_map.2 ⟨x, hx, rfl⟩)
            simpa using this
          have h2 : (e.born == x.born) = false := by rw [beq_eq_false_iff_ne] at this ⊢; exact Ne.symm this
          simp [this, h2]
        rw [this]
      · have hne : a.born ≠ e.born := fun e1 => hn.1 (by rw [e1]; exact List.mem_map.2 ⟨e, hm', rfl⟩)
        have IH := ih hn.2 hm'
        have e1 : (seen.push e.born).contains a.born = seen.contains a.born := by
          rw [contains_push]
          have h1 : (a.born == e.born) = false := by simpa using hne
          have h2 : (e.born == a.born) = false := by rw [beq_eq_false_iff_ne]; exact Ne.symm hne
          simp [h1, h2]
        cases hc : seen.contains a.born with
        | true =>
          rw [List.filter_cons_of_pos (by rw [e1, hc]), List.filter_cons_of_pos (by rw [hc])]
          exact (IH.cons a).trans (List.Perm.swap e a _)
        | false =>
          rw [List.filter_cons_of_neg (by rw [e1, hc]; simp), List.filter_cons_of_neg (by rw [hc]; simp)]
          exact IH
  exact key es.toList hnd he
/-- a walk over a map: S has come; n are left. -/
def IterG (enc : κ → Value) (w : World) (b r : Nat) (L S : List (κ × Value)) (n : Nat) : Prop :=
  ∃ es clock seen, w.heap[b]? = some (.map es clock) ∧ ReadsG enc es L ∧ Stamps es clock ∧ w.heap[r]? = some (.mapIter (some b) clock seen clock) ∧ n = (leftOf es seen).size ∧
    ((cameG es seen).map (fun e => (e.key, e.val))).Perm (S.map (fun p => (enc p.1, p.2)))
theorem IterG.left {w : World} {b r : Nat} {L S : List (κ × Value)} {n : Nat} (h : IterG enc w b r L S n) : w.rangeLeft b r = n := by
  obtain ⟨es, c, seen, hb, hr, hs, hi, hn, hg⟩ := h
  unfold World.rangeLeft
  rw [hb, hi, hn]
theorem IterG.lt {w : World} {b r : Nat} {L S : List (κ × Value)} {n : Nat} (h : IterG enc w b r L S n) : r < w.heap.size ∧ b < w.heap.size := by
  obtain ⟨es, c, seen, hb, hr, hs, hi, hn, hg⟩ := h
  exact ⟨(Array.getElem?_eq_some_iff.1 hi).1, (Array.getElem?_eq_some_iff.1 hb).1⟩
theorem IterG.map {w : World} {b r : Nat} {L S : List (κ × Value)} {n : Nat} (h : IterG enc w b r L S n) : MapG enc w b L := by
  obtain ⟨es, c, seen, hb, hr, hs, hi, hn, hg⟩ := h
  exact ⟨es, c, hb, hr, hs⟩
theorem IterG.below {w w' : World} {b r : Nat} {L S : List (κ × Value)} {n : Nat} (h : IterG enc w b r L S n) (hk : Below w.heap.size w w') : IterG enc w' b r L S n := by
  obtain ⟨h1, h2⟩ := h.lt
  obtain ⟨es, c, seen, hb, hr, hs, hi, hn, hg⟩ := h
  exact ⟨es, c, seen, (hk.block b h2).trans hb, hr, hs, (hk.block r h1).trans hi, hn, hg⟩
theorem IterG.grown {w w' : World} {b r : Nat} {L S : List (κ × Value)} {n : Nat} {ob : Option Nat} (h : IterG enc w b r L S n) (hg : w.grownBy w' ob) (hlow : ∀ k, ob = some k → r < k ∧ b < k) : IterG enc w' b r L S n := by
  obtain ⟨h1, h2⟩ := h.lt
  obtain ⟨es, c, seen, hb, hr, hs, hi, hn, hg2⟩ := h
  exact ⟨es, c, seen, (hg.block b h2 (fun e => by have := (hlow b e.symm).2; omega)).trans hb, hr, hs, (hg.block r h1 (fun e => by have := (hlow r e.symm).1; omega)).trans hi, hn, hg2⟩
/-- 'range m'. -/
theorem MapG.range {P : Program} {w : World} {t kt e : TypeId} {b : Nat} {L : List (κ × Value)} (h : MapG enc w b L) (ht : P.underlying t = some (.map kt e)) :
    ∃ o, (Instr.range t (.map (some b))).run P w = .ok (.pointer (some ⟨w.heap.size, 0, none⟩)) (w.alloc o) ∧ IterG enc (w.alloc o) b w.heap.size L [] L.length := by
  have hlt := h.lt
  obtain ⟨es, c, hb, hr, hs⟩ := h
  refine ⟨_, run_range_map w t kt e b es c ht hb, es, c, #[], ((MapKept.heap_alloc w _).2 b hlt).trans hb, hr, hs, (MapKept.heap_alloc w _).1, ?_, ?_⟩
  · rw [← hr.size]
    unfold leftOf
    rw [Array.filter_eq_self.2 (fun x hx => by simp)]
  · unfold cameG
    rw [List.filter_eq_nil_iff.2 (fun x hx => by simp)]
    exact List.Perm.refl _
/-- the step. -/
theorem IterG.next {P : Program} (hinj : ∀ a b : κ, enc a = enc b → a = b) {w : World} {b r : Nat} {L S : List (κ × Value)} {n : Nat} (h : IterG enc w b r L S n) (ty : TypeId) :
    (n = 0 ∧ (L.map (fun p => (enc p.1, p.2))).Perm (S.map (fun p => (enc p.1, p.2))) ∧ (Instr.next (.pointer (some ⟨r, 0, none⟩)) false ty).run P w = .ok (.tuple #[.bool false]) w) ∨
    ∃ k v w' n', (k, v) ∈ L ∧ (Instr.next (.pointer (some ⟨r, 0, none⟩)) false ty).run P w = .ok (.tuple #[.bool true, enc k, v]) w' ∧ IterG enc w' b r L ((k, v) :: S) n' ∧ n' < n ∧
      w.grownBy w' (some r) ∧ w'.heap.size = w.heap.size ∧ (Instr.entry (.pointer (some ⟨r, 0, none⟩))).run P w' = .ok (.tuple #[enc k, v]) w' := by
  obtain ⟨es, c, seen, hb, hr, hs, hi, rfl, hg⟩ := h
  rcases run_next_at (P := P) w ty r b c c seen es c hi hb hs.2 (Nat.le_refl _) with ⟨h0, hrun⟩ | ⟨e, he, w1, hal, hrun⟩
  · refine .inl ⟨h0, ?_, hrun⟩
    have hall : cameG es seen = es.toList := by
      unfold cameG
      exact List.filter_eq_self.2 (fun x hx => all_seen es seen h0 x hx)
    rw [hall, hr] at hg
    exact hg
  · obtain ⟨hem, hes⟩ := mem_left he
    have : (e.key, e.val) ∈ es.toList.map (fun e => (e.key, e.val)) := List.mem_map.2 ⟨e, hem, rfl⟩
    rw [hr] at this
    obtain ⟨⟨k, v⟩, hkv, hpe⟩ := List.mem_map.1 this
    simp only [Prod.mk.injEq] at hpe
    obtain ⟨hk, hv⟩ := hpe
    have hr1 : w1.heap[r]? = some (.mapIter (some b) c seen c) := by rcases hal with rfl | rfl <;> exact hi
    have hb1 : w1.heap[b]? = some (.map es c) := by rcases hal with rfl | rfl <;> exact hb
    have hne : r ≠ b := fun e => by rw [e, hb] at hi; cases hi
    have hset := heap_set (o' := .mapIter (some b) c (seen.push e.born) c) hr1
    have hb' : (setBlock w1 r (.mapIter (some b) c (seen.push e.born) c)).heap[b]? = some (.map es c) := (hset.2 b (fun e1 => hne e1.symm)).trans hb1
    have hen := run_entry_at (P := P) _ r b c seen es c e hset.1 hb' hem hs.1
    rw [← hk, ← hv] at hrun hen
    refine .inr ⟨k, v, _, _, hkv, hrun, ⟨es, c, seen.push e.born, hb', hr, hs, hset.1, rfl, ?_⟩, left_shrinks es seen e he, ?_, ?_, hen⟩
    · refine ((came_push hs hem (by simpa using hes)).map _).trans ?_
      rw [List.map_cons, List.map_cons, hk, hv]
      exact hg.cons _
    · rcases hal with rfl | rfl <;> exact ⟨rfl, rfl, rfl, by simp [setBlock], fun i _ hi => hset.2 i (fun e1 => hi (by rw [e1]))⟩
    · rcases hal with rfl | rfl <;> simp [setBlock]
theorem left_lenG (es : Array MapEntry) (seen : Array Nat) : (leftOf es seen).size = (es.toList.filter (fun e => !seen.contains e.born)).length := by
  unfold leftOf
  rw [← Array.toList_filter, Array.length_toList]
theorem perm_eraseG {α : Type} : ∀ (l : List α) (i : Nat) (x : α), l[i]? = some x → l.Perm (x :: l.eraseIdx i)
  | [], i, x, h => by simp at h
  | a :: t, 0, x, h => by simp at h; subst h; simp
  | a :: t, i + 1, x, h => by
    rw [List.eraseIdx_cons_succ]
    exact ((perm_eraseG t i x (by simpa using h)).cons a).trans (List.Perm.swap x a _)
/-- an entry that has come is struck from the map. -/
theorem IterG.del {P : Program} (hinj : ∀ a b : κ, enc a = enc b → a = b) {w : World} {t kt e : TypeId} {b r : Nat} {L S : List (κ × Value)} {n : Nat} {k : κ} {v : Value} (h : IterG enc w b r L ((k, v) :: S) n) (H : KeyLaw P kt enc) (ht : P.underlying t = some (.map kt e)) (hnd : (L.map (·.1)).Nodup) (t2 ty : TypeId) :
    ∃ o, (Builtin.delete_ #[t, t2] ty #[.map (some b), enc k]).run P w = .ok (.tuple #[]) (w.putObj b o) ∧ IterG enc (w.putObj b o) b r (dropM k L) S n := by
  have hlt := h.lt
  obtain ⟨es1, es', c1, hb1, hrun, hr1, hr', hs1, hs', hcase⟩ := h.map.del H ht k t2 ty
  obtain ⟨es, c, seen, hb, hr, hs, hi, rfl, hg⟩ := h
  rw [hb] at hb1
  simp only [Option.some.injEq, Obj.map.injEq] at hb1
  obtain ⟨rfl, rfl⟩ := hb1
  have hne : r ≠ b := fun e => by rw [e, hb] at hi; cases hi
  -- the entry that has come
  have hmem : (enc k, v) ∈ (cameG es seen).map (fun e => (e.key, e.val)) := hg.mem_iff.2 (List.mem_map.2 ⟨(k, v), List.mem_cons_self, rfl⟩)
  obtain ⟨x, hx, hxe⟩ := List.mem_map.1 hmem
  simp only [Prod.mk.injEq] at hxe
  unfold cameG at hx
  obtain ⟨hxm, hxs⟩ := List.mem_filter.1 hx
  have hkeys : es.toList.map (·.key) = L.map (fun p => enc p.1) := by
    have := congrArg (List.map Prod.fst) hr
    simpa [List.map_map, Function.comp_def] using this
  have hkn : (es.toList.map (·.key)).Nodup := by
    rw [hkeys]
    unfold List.Nodup at hnd ⊢
    rw [List.pairwise_map] at hnd ⊢
    exact hnd.imp fun hne e => hne (hinj _ _ e)
  have uniq : ∀ y ∈ es.toList, y.key = enc k → y = x := fun y hy hyk => by
    obtain ⟨i, hi', rfl⟩ := List.getElem_of_mem hy
    obtain ⟨j, hj', rfl⟩ := List.getElem_of_mem hxm
    have := (List.getElem_inj (i := i) (j := j) (h₀ := by simpa using hi') (h₁ := by simpa using hj') hkn).1 (by rw [List.getElem_map, List.getElem_map, hyk, hxe.1])
    subst this; rfl
  have hfound : ∃ i, i < es.size ∧ es' = es.eraseIdxIfInBounds i ∧ es[i]? = some x := by
    rcases hcase with rfl | ⟨i, hil, he', hik⟩
    · exfalso
      have h1 : es'.toList.map (·.key) = (dropM k L).map (fun p => enc p.1) := by
        have := congrArg (List.map Prod.fst) hr'
        simpa [List.map_map, Function.comp_def] using this
      have h2 : (L.map (fun p => enc p.1)) = (dropM k L).map (fun p => enc p.1) := hkeys.symm.trans h1
      have h3 : enc k ∈ L.map (fun p => enc p.1) := by rw [← hkeys]; exact List.mem_map.2 ⟨x, hxm, hxe.1⟩
      have hl := congrArg List.length h2
      simp only [List.length_map] at hl
      cases hf : findM k L 0 with
      | none =>
        obtain ⟨p, hp, hpk⟩ := List.mem_map.1 h3
        have hpk' := hinj _ _ hpk
        have := congrArg (·.isSome) (lookGm_find L k)
        unfold lookGm at this
        rw [hf] at this
        simp at this
        exact this p.1 p.2 hp hpk'.symm
      | some q =>
        obtain ⟨i, u⟩ := q
        obtain ⟨_, h4, _⟩ := findM_lt hf
        rw [dropM_hit hf, List.length_eraseIdx] at hl
        split at hl <;> omega
    · refine ⟨i, hil, he', ?_⟩
      rw [Array.getElem?_eq_getElem hil] at hik ⊢
      simp at hik
      rw [uniq es[i] (by simp) hik]
  obtain ⟨i, hil, he', hix⟩ := hfound
  have htl : es'.toList = es.toList.eraseIdx i := by rw [he']; simp
  have hperm : es.toList.Perm (x :: es'.toList) := by
    rw [htl]
    exact perm_eraseG _ _ _ (by rw [Array.getElem?_toList]; exact hix)
  refine ⟨_, hrun, es', c, seen, World.putObj_heap_same hlt.2, hr', hs', (World.putObj_heap_other hne).trans hi, ?_, ?_⟩
  · have := (hperm.filter (fun e => !seen.contains e.born)).length_eq
    rw [List.filter_cons_of_neg (by rw [hxs]; simp)] at this
    exact (left_lenG es seen).trans (this.trans (left_lenG es' seen).symm)
  · have h1 : (cameG es seen).Perm (x :: cameG es' seen) := by
      unfold cameG
      have := hperm.filter (fun e => seen.contains e.born)
      rw [List.filter_cons_of_pos (by rw [hxs])] at this
      exact this
    have h2 := (h1.map (fun e => (e.key, e.val))).symm.trans hg
    rw [List.map_cons, List.map_cons, hxe.1, hxe.2] at h2
    exact h2.cons_inv
section
variable {P : Program} (w : World) {ops : Array Oper} {rest : List Oper} {o : Oper} {a : Act} {Q : Exit → Act → World → Prop}
theorem wpList_rangeG (hg : o.guard = none) (m : Operand) (t kt e : TypeId) (hop : o.op = Op.range t m) (ht : P.underlying t = some (.map kt e)) (b : Nat) (L : List (κ × Value))
    (hm : a.eval m = .map (some b)) (h : MapG enc w b L)
    (hK : ∀ w', IterG enc w' b w.heap.size L [] L.length → Below w.heap.size w w' → w'.heap.size = w.heap.size + 1 → wpList P ops Q rest (a.put o.dst (.pointer (some ⟨w.heap.size, 0, none⟩))) w') :
    wpList P ops Q (o :: rest) a w := by
  refine wpList_plain hg fun K' hK' => ?_
  obtain ⟨oo, hrun, r1⟩ := h.range (P := P) ht
  unfold Oper.wp
  simp [execOp, hop, hm, hrun, Result.andThen]
  exact hK' _ _ (hK _ r1 ((Below.refl _ _).alloc (Nat.le_refl _) _) (by simp))
theorem wpList_nextG (hinj : ∀ a b : κ, enc a = enc b → a = b) (hg : o.guard = none) (it : Operand) (hop : o.op = Op.next it false) (b r : Nat) (L S : List (κ × Value)) (n : Nat)
    (hit : a.eval it = .pointer (some ⟨r, 0, none⟩)) (h : IterG enc w b r L S n)
    (hDone : n = 0 → (L.map (fun p => (enc p.1, p.2))).Perm (S.map (fun p => (enc p.1, p.2))) → wpList P ops Q rest (a.put o.dst (.tuple #[.bool false])) w)
    (hMore : ∀ (k : κ) (v : Value) (w' : World) (n' : Nat), (k, v) ∈ L → IterG enc w' b r L ((k, v) :: S) n' → n' < n →
      w.grownBy w' (some r) → w'.heap.size = w.heap.size → (Instr.entry (.pointer (some ⟨r, 0, none⟩))).run P w' = .ok (.tuple #[enc k, v]) w' → wpList P ops Q rest (a.put o.dst (.tuple #[.bool true, enc k, v])) w') :
    wpList P ops Q (o :: rest) a w := by
  refine wpList_plain hg fun K' hK' => ?_
  unfold Oper.wp
  rcases h.next (P := P) hinj o.type with ⟨h0, hl, hrun⟩ | ⟨k, v, w', n', hkv, hrun, hI, hlt, hgr, hsz, hen⟩
  · simp [execOp, hop, hit, hrun, Result.andThen]
    exact hK' _ _ (hDone h0 hl)
  · simp [execOp, hop, hit, hrun, Result.andThen]
    exact hK' _ _ (hMore k v w' n' hkv hI hlt hgr hsz hen)
theorem wpList_deleteG (hg : o.guard = none) (m x : Operand) (t k2 : TypeId) (hop : o.op = Op.call { callee := Callee.builtin Builtin.delete, args := #[m, x], argTypes := #[t, k2] })
    (mv kv : Value) (hm : a.eval m = mv) (hx : a.eval x = kv) {w' : World} (hrun : (Builtin.delete_ #[t, k2] o.type #[mv, kv]).run P w = .ok (.tuple #[]) w')
    (hK : wpList P ops Q rest (a.put o.dst (.tuple #[])) w') : wpList P ops Q (o :: rest) a w := by
  refine wpList_plain hg fun K' hK' => ?_
  unfold Oper.wp
  simp [execOp, hop, resolve, invoke, builtin, hm, hx, hrun, Result.andThen]
  exact hK' _ _ hK
end
end
end Go.Proofs.Ytbkipfmnbfjkcaa
