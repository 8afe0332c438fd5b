/-
  Maps whose keys are whole numbers: an entry taken out; a map as one that the library's iterators bear. Nothing here speaks of one function.
-/
import Derived.Test.YtjdedlmphghpnaaMp
import Derived.Maps.Own
import Derived.Lib.SlKeysI
namespace Go.Proofs.Ytjdedlmphghpnaa
open Go.RowKit Go.MapKept
set_option linter.unusedVariables false
set_option linter.unusedSimpArgs false

theorem map_eraseI {α β : Type} (f : α → β) : ∀ (l : List α) (i : Nat), (l.eraseIdx i).map f = (l.map f).eraseIdx i
  | [], i => by simp
  | a :: t, 0 => by simp
  | a :: t, i + 1 => by simp [map_eraseI f t i]
/-- what is there without a key. -/
def dropK (k : Int) : List (Int × Value) → List (Int × Value)
  | [] => []
  | p :: t => if k = p.1 then t else p :: dropK k t
theorem dropK_hit {k : Int} : ∀ {L : List (Int × Value)} {i j : Nat} {u : Value}, findK k L i = some (j, u) → dropK k L = L.eraseIdx (j - i)
  | [], i, j, u, h => by simp [findK] at h
  | p :: L, i, j, u, h => by
    have hl := findK_lt h
    unfold findK at h
    unfold dropK
    split at h
    · next e =>
      simp only [Option.some.injEq, Prod.mk.injEq] at h
      obtain ⟨rfl, _⟩ := h
      rw [if_pos e, Nat.sub_self]; rfl
    · next e =>
      obtain ⟨h1, h2, h3⟩ := findK_lt h
      rw [if_neg e, dropK_hit h, show j - i = (j - (i + 1)) + 1 by omega]; rfl
theorem dropK_miss {k : Int} : ∀ {L : List (Int × Value)} {i : Nat}, findK k L i = none → dropK k L = L
  | [], i, h => rfl
  | p :: L, i, h => by
    unfold findK at h
    unfold dropK
    split at h
    · cases h
    · next e => rw [if_neg e, dropK_miss h]
theorem Stamps.erase {es : Array MapEntry} {c : Nat} (h : Stamps es c) (i : Nat) : Stamps (es.eraseIdxIfInBounds i) c := by
  have e : (es.eraseIdxIfInBounds i).toList = es.toList.eraseIdx i := by simp
  refine ⟨?_, fun x hx => ?_⟩
  · rw [e]
    exact ((List.eraseIdx_sublist _ _).map _).nodup h.1
  · rw [e] at hx
    exact h.2 x ((List.eraseIdx_sublist _ _).mem hx)
theorem MapS.del {P : Program} {w : World} {t kt e : TypeId} {b : Nat} {L : List (Int × Value)} (h : MapS w b L) (ht : P.underlying t = some (.map kt e)) (hk : P.underlying kt = some (.int .i64)) (k : Int) (t2 ty : TypeId) :
    ∃ o, (Builtin.delete_ #[t, t2] ty #[.map (some b), .int .i64 k]).run P w = .ok (.tuple #[]) (w.putObj b o) ∧ MapS (w.putObj b o) b (dropK k L) := by
  have hlt := h.lt
  obtain ⟨es, c, hb, hr, hst⟩ := h
  have h1 := run_checkKey (w := w) hk (show IsKey (.int .i64) (.int .i64 k) from rfl) es.isEmpty 9999
  have h2 := run_findKey (w := w) hk (findNow_reads k es.toList L 0 hr)
  have hg : (getObj b).run P w = .ok (.map es c) w := by simp [getObj, Sem.run, hb]
  have hs : ∀ o, (setObj b o).run P w = .ok () (w.putObj b o) := fun o => by simp [setObj, Sem.run, hb, World.putObj]
  cases hf : findK k L 0 with
  | none =>
    refine ⟨.map es c, ?_, ?_⟩
    · unfold Builtin.delete_
      simp [Sem.run_bind, run_underlying ht, hg, Result.andThen, h1, h2, hf, hs]
    · rw [dropK_miss hf]
      exact ⟨es, c, World.putObj_heap_same hlt, hr, hst⟩
  | some q =>
    obtain ⟨i, u⟩ := q
    refine ⟨.map (es.eraseIdxIfInBounds i) c, ?_, ?_⟩
    · unfold Builtin.delete_
      simp [Sem.run_bind, run_underlying ht, hg, Result.andThen, h1, h2, hf, hs]
    · refine ⟨_, _, World.putObj_heap_same hlt, ?_, hst.erase i⟩
      rw [dropK_hit hf, Nat.sub_zero]
      unfold Reads at hr ⊢
      rw [show (es.eraseIdxIfInBounds i).toList = es.toList.eraseIdx i by simp, map_eraseI, hr, ← map_eraseI]
/-- no key twice, each one a number of 64 bits. -/
def KeysOk (L : List (Int × Value)) : Prop := (L.map (·.1)).Nodup ∧ ∀ p ∈ L, -9223372036854775808 ≤ p.1 ∧ p.1 ≤ 9223372036854775807
theorem MapS.owns {P : Program} {w : World} {kt : TypeId} {b : Nat} {L : List (Int × Value)} (h : MapS w b L) (hk : P.underlying kt = some (.int .i64)) (ho : KeysOk L) (hsz : L.length ≤ maxLen) :
    ∃ D : DataW Unit, w.ownsMap P kt (fun _ => some (.lit (.bool true), [])) b L.length D ∧ Maps.size D = L.length ∧ (intKeys D).Perm (L.map (·.1)) := by
  obtain ⟨es, c, hb, hr, hst⟩ := h
  have hlen := hr.size
  have hkeyof : ∀ k : Int, -9223372036854775808 ≤ k → k ≤ 9223372036854775807 → keyOf P kt (.int .i64 k) = some (.int .i64 k) := fun k h1 h2 => by
    unfold keyOf
    rw [hk]
    unfold mapKey
    rw [hk]
    have hw : (Lit.int .i64 k).wf = true := by simp [Lit.wf, IntKind.min, IntKind.max, IntKind.bits, IntKind.signed]; omega
    simp [hw]
  have hkeys : es.toList.map (·.key) = L.map (fun p => Value.int .i64 p.1) := by
    have := congrArg (List.map Prod.fst) hr
    simpa [List.map_map, Function.comp_def] using this
  have hrd : ∀ x ∈ es.toList, ∃ k, x.key = .int .i64 k ∧ k ∈ L.map (·.1) ∧ Go.WideElems.rd P kt (fun _ => some ((.lit (.bool true) : DataW Unit), [])) x = some (.int .i64 k, .lit (.bool true)) := fun x hx => by
    have : x.key ∈ es.toList.map (·.key) := List.mem_map.2 ⟨x, hx, rfl⟩
    rw [hkeys] at this
    obtain ⟨p, hp, hpk⟩ := List.mem_map.1 this
    refine ⟨p.1, hpk.symm, List.mem_map.2 ⟨p, hp, rfl⟩, ?_⟩
    have := hkeyof p.1 (ho.2 p hp).1 (ho.2 p hp).2
    unfold Go.WideElems.rd
    rw [← hpk, this]; rfl
  have F : Go.WideElems.Fit P kt (fun _ => some ((.lit (.bool true) : DataW Unit), [])) es c := by
    refine ⟨by omega, ⟨hst.2, hst.1, ?_⟩, fun x hx => ?_⟩
    · rw [hkeys]
      have := ho.1
      unfold List.Nodup at this ⊢
      rw [List.pairwise_map] at this ⊢
      exact this.imp fun hne e => hne (by simpa using e)
    · obtain ⟨k, _, _, h3⟩ := hrd x hx
      exact ⟨_, h3⟩
  have hown : w.ownsMap P kt (fun _ => some ((.lit (.bool true) : DataW Unit), [])) b L.length (.map ((es.toList.map (Go.WideElems.rg P kt (fun _ => some ((.lit (.bool true) : DataW Unit), [])))).foldr DataW.insert [])) := ⟨es, c, hb, F, by omega, rfl⟩
  refine ⟨_, hown, ?_, ?_⟩
  · show ((es.toList.map (Go.WideElems.rg P kt (fun _ => some ((.lit (.bool true) : DataW Unit), [])))).foldr DataW.insert []).length = _
    rw [length_sorted]; simp [hlen]
  · show (((es.toList.map (Go.WideElems.rg P kt (fun _ => some ((.lit (.bool true) : DataW Unit), [])))).foldr DataW.insert []).map fun p => intOf p.1).Perm _
    refine ((Go.WideShapes.sorted_perm _).map _).trans ?_
    have e : (es.toList.map (Go.WideElems.rg P kt (fun _ => some ((.lit (.bool true) : DataW Unit), [])))).map (fun p => intOf p.1) = L.map (·.1) := by
      have e1 : es.toList.map (fun x => intOf (Go.WideElems.rg P kt (fun _ => some ((.lit (.bool true) : DataW Unit), [])) x).1) = es.toList.map (fun x => (fun v => match v with | .int _ a => a | _ => 0) x.key) := by
        refine List.map_congr_left fun x hx => ?_
        obtain ⟨k, h1, h2, h3⟩ := hrd x hx
        rw [Go.WideElems.rg_of h3, h1]; rfl
      rw [List.map_map]
      show es.toList.map (fun x => intOf (Go.WideElems.rg P kt (fun _ => some ((.lit (.bool true) : DataW Unit), [])) x).1) = _
      rw [e1]
      have := congrArg (List.map (fun v => match v with | Value.int _ a => a | _ => 0)) hkeys
      rw [List.map_map, List.map_map] at this
      exact this
    rw [e]
end Go.Proofs.Ytjdedlmphghpnaa
