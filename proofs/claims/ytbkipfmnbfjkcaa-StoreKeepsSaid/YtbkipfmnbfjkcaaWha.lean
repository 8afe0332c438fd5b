/-
  Rows whose elements have k cells each: copied into, cleared, cut, one element put in the middle. Nothing here speaks of one function.
-/
import Derived.Test.YtbkipfmnbfjkcaaOr
import Derived.Laws.CopyOwn
import Derived.Lib.AppendZerosOnto
import Derived.Lib.Overlaps
import Derived.Deep.RegionLaw
import Derived.Laws.NewBlocks
namespace Go.Proofs.Ytbkipfmnbfjkcaa
open Go.RowKit
set_option maxRecDepth 100000
set_option linter.unusedVariables false

/-- cs laid into cur from place o on. -/
def splK (cur : List Value) (o : Nat) (cs : List Value) : List Value := cur.take o ++ cs ++ cur.drop (o + cs.length)
theorem splK_len {cur : List Value} {o : Nat} {cs : List Value} (h : o + cs.length ≤ cur.length) : (splK cur o cs).length = cur.length := by
  simp [splK]; omega
theorem splK_get {cur : List Value} {o : Nat} {cs : List Value} (h : o + cs.length ≤ cur.length) (j : Nat) : (splK cur o cs)[j]? = if o ≤ j ∧ j < o + cs.length then cs[j - o]? else cur[j]? := by
  unfold splK
  have h1 : (cur.take o).length = o := by simp; omega
  by_cases c1 : j < o
  · rw [if_neg (by omega), List.append_assoc, List.getElem?_append_left (by omega), List.getElem?_take, if_pos c1]
  · by_cases c2 : j < o + cs.length
    · rw [if_pos ⟨by omega, c2⟩, List.append_assoc, List.getElem?_append_right (by omega), h1, List.getElem?_append_left (by omega)]
    · rw [if_neg (by omega), List.getElem?_append_right (by simp; omega), List.getElem?_drop]
      congr 1
      simp; omega
theorem run_copy_rowk {P : Program} (w : World) (dT sT ty elem : TypeId) (k g o dLen dCap : Nat) (a : Addr) (sLen sCap : Nat) (cur : List Value) (t : TypeId) (cs : List Value)
    (hu : P.underlying dT = some (.slice elem)) (hs : (P.info? elem).map (·.size) = some k)
    (hg : w.heap[g]? = some (.cells cur.toArray t (0, 0))) (hn : cs.length = Nat.min sLen dLen * k)
    (hsrc : ∀ j v, cs[j]? = some v → w.cell? (a.add j) = some v) (hfit : o + cs.length ≤ cur.length) (h1 : ∀ v ∈ cs, v.oneCell' = true) :
    (Builtin.copy_ #[dT, sT] ty #[.slice (some ⟨g, o, none⟩) dLen dCap, .slice (some a) sLen sCap]).run P w =
      .ok (goInt (Nat.min sLen dLen)) (w.setRow g (splK cur o cs).toArray) := by
  have hst := run_storeCells_at P g o t cs 0 cur.toArray w hg (by simpa using hfit) h1
  have hf := run_firstCells_some (P := P) w k (Nat.min sLen dLen) a sLen sCap cs hn hsrc
  cases hq : P.info? elem with
  | none => simp [hq] at hs
  | some i =>
    have hi : i.size = k := by simpa [hq] using hs
    simp [Builtin.copy_, run_underlying hu, Builtin.lenOf, sizeOf, typeInfo, hq, hi, hf, hst, splK]
/-- k cells' zero values, n times. -/
theorem run_clear_rowk {P : Program} (w : World) (t e ty : TypeId) (z : Value) (ht : P.underlying t = some (.slice e)) (hv : (zeroValue e).run P w = .ok z w) (h1 : ∀ v ∈ z.cells.toList, v.oneCell' = true) (g o n c : Nat) (cur : List Value) (te : TypeId)
    (hg : w.heap[g]? = some (.cells cur.toArray te (0, 0))) (hn : 0 < n) (hfit : o + n * z.cells.size ≤ cur.length) :
    (Builtin.clear_ #[t] ty #[.slice (some ⟨g, o, none⟩) n c]).run P w = .ok (.tuple #[]) (w.setRow g (splK cur o (Builtin.zeroCells z.cells n).toList).toArray) := by
  have hl : (Builtin.zeroCells z.cells n).toList.length = n * z.cells.size := by simp [Builtin.zeroCells]
  have hz1 : ∀ v ∈ (Builtin.zeroCells z.cells n).toList, v.oneCell' = true := by
    intro v hv'
    simp only [Builtin.zeroCells, Array.toList_map, Array.toList_range, List.mem_map, List.mem_range] at hv'
    obtain ⟨i, hi, rfl⟩ := hv'
    have h0 : 0 < z.cells.size := by
      rcases Nat.eq_zero_or_pos z.cells.size with h | h
      · rw [h] at hi; omega
      · exact h
    have hlt := Nat.mod_lt i h0
    rw [getElem!_pos z.cells _ hlt]
    exact h1 _ (by simp)
  have hst := run_storeCells_at P g o te (Builtin.zeroCells z.cells n).toList 0 cur.toArray w hg (by rw [hl]; simpa using hfit) hz1
  obtain ⟨m, rfl⟩ : ∃ m, n = m + 1 := ⟨n - 1, by omega⟩
  simp only [Nat.add_zero] at hst
  simp only [Builtin.clear_, Sem.run_bind, Sem.run_pure, run_underlying ht, hv, Result.andThen_ok, hst, splK, List.getElem?_toArray, List.getElem?_cons_zero]
/-- the builtin's call as an operation, its run known. -/
theorem wpList_copy_eq {P : Program} {w : World} {ops : Array Oper} {rest : List Oper} {o : Oper} {a : Act} {Q : Exit → Act → World → Prop} (hgd : o.guard = none) (d s : Operand) (t t' : TypeId)
    (ho : o.op = .call { callee := .builtin .copy, args := #[d, s], argTypes := #[t, t'] }) (v u : Value) (hd : a.eval d = v) (hs : a.eval s = u) {v' : Value} {w' : World}
    (hr : (Builtin.copy_ #[t, t'] o.type #[v, u]).run P w = .ok v' w') (h : wpList P ops Q rest (a.put o.dst v') w') : wpList P ops Q (o :: rest) a w := by
  refine wpList_plain hgd fun K hK => ?_
  unfold Oper.wp execOp
  simp only [ho, resolve, invoke, builtin, Sem.run_bind, Sem.run_pure, Result.andThen_ok, List.map_toArray, List.map_cons, List.map_nil, hd, hs, hr]
  exact hK _ _ h
theorem step_copy_eq {P : Program} {ops : Array Oper} {o : Oper} {a : Act} {w : World} {K : Act → World → Prop} {Q : Exit → Act → World → Prop} {E : Prop}
    (hg : o.guard = none) (d x : Operand) (dT sT : TypeId) (hop : o.op = Op.call { callee := Callee.builtin Builtin.copy, args := #[d, x], argTypes := #[dT, sT] })
    (v u : Value) (hd : a.eval d = v) (hx : a.eval x = u) {v' : Value} {w' : World} (hr : (Builtin.copy_ #[dT, sT] o.type #[v, u]).run P w = .ok v' w') (hK : K (a.put o.dst v') w') :
    if Region.wanted o (yielded ops a.tmps) = true then Oper.wp P o a w K Q else E := by
  have hw : Region.wanted o (yielded ops a.tmps) = true := by simp [Region.wanted, hg]
  rw [if_pos hw]
  unfold Oper.wp
  simp [execOp, hop, resolve, invoke, builtin, hd, hx, hr, Result.andThen]
  exact hK
theorem wpList_append_eq {P : Program} {w : World} {ops : Array Oper} {rest : List Oper} {o : Oper} {a : Act} {Q : Exit → Act → World → Prop} (hgd : o.guard = none) (d s : Operand) (t t' : TypeId)
    (ho : o.op = .call { callee := .builtin .append, args := #[d, s], argTypes := #[t, t'] }) (v u : Value) (hd : a.eval d = v) (hs : a.eval s = u) {v' : Value} {w' : World}
    (hr : (Builtin.append_ #[t, t'] o.type #[v, u]).run P w = .ok v' w') (h : wpList P ops Q rest (a.put o.dst v') w') : wpList P ops Q (o :: rest) a w := by
  refine wpList_plain hgd fun K hK => ?_
  unfold Oper.wp execOp
  simp only [ho, resolve, invoke, builtin, Sem.run_bind, Sem.run_pure, Result.andThen_ok, List.map_toArray, List.map_cons, List.map_nil, hd, hs, hr]
  exact hK _ _ h
theorem step_append_eq {P : Program} {ops : Array Oper} {o : Oper} {a : Act} {w : World} {K : Act → World → Prop} {Q : Exit → Act → World → Prop} {E : Prop}
    (hg : o.guard = none) (d x : Operand) (dT sT : TypeId) (hop : o.op = Op.call { callee := Callee.builtin Builtin.append, args := #[d, x], argTypes := #[dT, sT] })
    (v u : Value) (hd : a.eval d = v) (hx : a.eval x = u) {v' : Value} {w' : World} (hr : (Builtin.append_ #[dT, sT] o.type #[v, u]).run P w = .ok v' w') (hK : K (a.put o.dst v') w') :
    if Region.wanted o (yielded ops a.tmps) = true then Oper.wp P o a w K Q else E := by
  have hw : Region.wanted o (yielded ops a.tmps) = true := by simp [Region.wanted, hg]
  rw [if_pos hw]
  unfold Oper.wp
  simp [execOp, hop, resolve, invoke, builtin, hd, hx, hr, Result.andThen]
  exact hK
theorem wpList_clear_eq {P : Program} {w : World} {ops : Array Oper} {rest : List Oper} {o : Oper} {a : Act} {Q : Exit → Act → World → Prop} (hgd : o.guard = none) (d : Operand) (t : TypeId)
    (ho : o.op = .call { callee := .builtin .clear, args := #[d], argTypes := #[t] }) (v : Value) (hd : a.eval d = v) {v' : Value} {w' : World}
    (hr : (Builtin.clear_ #[t] o.type #[v]).run P w = .ok v' w') (h : wpList P ops Q rest (a.put o.dst v') w') : wpList P ops Q (o :: rest) a w := by
  refine wpList_plain hgd fun K hK => ?_
  unfold Oper.wp execOp
  simp only [ho, resolve, invoke, builtin, Sem.run_bind, Sem.run_pure, Result.andThen_ok, List.map_toArray, List.map_cons, List.map_nil, hd, hr]
  exact hK _ _ h
/-- one element put in the middle, by two copies within the row. -/
theorem ins_shift {cur xs x : List Value} {n i k : Nat} (hx : xs.length = n * k) (hx1 : x.length = k) (hi : i ≤ n) (ht : cur.take (n * k) = xs) (hfit : (n + 1) * k ≤ cur.length) :
    (splK (splK cur ((i + 1) * k) (xs.drop (i * k))) (i * k) x).take ((n + 1) * k) = xs.take (i * k) ++ (x ++ xs.drop (i * k)) := by
  have e1 : (i + 1) * k = i * k + k := by rw [Nat.add_mul, Nat.one_mul]
  have e2 : (n + 1) * k = n * k + k := by rw [Nat.add_mul, Nat.one_mul]
  have e3 : i * k ≤ n * k := Nat.mul_le_mul_right _ hi
  rw [e2] at hfit ⊢
  rw [e1]
  generalize i * k = I at *
  generalize n * k = N at *
  have hdl : (xs.drop I).length = N - I := by rw [List.length_drop, hx]
  have hl1 : (splK cur (I + k) (xs.drop I)).length = cur.length := splK_len (by omega)
  apply List.ext_getElem?
  intro j
  rw [List.getElem?_take]
  have hxj : ∀ t, t < N → cur[t]? = xs[t]? := fun t h => by rw [← ht, List.getElem?_take, if_pos h]
  by_cases c0 : j < N + k
  · rw [if_pos c0, splK_get (by omega)]
    by_cases c1 : j < I
    · rw [if_neg (by omega), splK_get (by omega), if_neg (by omega), List.getElem?_append_left (by simp; omega), List.getElem?_take, if_pos c1, hxj j (by omega)]
    · rw [List.getElem?_append_right (by simp; omega)]
      have e4 : (xs.take I).length = I := by simp; omega
      rw [e4]
      by_cases c2 : j < I + k
      · rw [if_pos ⟨by omega, by omega⟩, List.getElem?_append_left (by omega)]
      · rw [if_neg (by omega), splK_get (by omega), if_pos ⟨by omega, by omega⟩, List.getElem?_append_right (by omega)]
        congr 1; omega
  · rw [if_neg c0, List.getElem?_eq_none (by simp; omega)]
/-- one element put in the middle of a new row. -/
theorem ins_new {R xs x : List Value} {n i k : Nat} (hx : xs.length = n * k) (hx1 : x.length = k) (hi : i ≤ n) (ht : R.take (i * k) = xs.take (i * k)) (hfit : (n + 1) * k ≤ R.length) :
    (splK (splK R (i * k) x) ((i + 1) * k) (xs.drop (i * k))).take ((n + 1) * k) = xs.take (i * k) ++ (x ++ xs.drop (i * k)) := by
  have e1 : (i + 1) * k = i * k + k := by rw [Nat.add_mul, Nat.one_mul]
  have e2 : (n + 1) * k = n * k + k := by rw [Nat.add_mul, Nat.one_mul]
  have e3 : i * k ≤ n * k := Nat.mul_le_mul_right _ hi
  rw [e2] at hfit ⊢
  rw [e1]
  generalize i * k = I at *
  generalize n * k = N at *
  have hdl : (xs.drop I).length = N - I := by rw [List.length_drop, hx]
  have hl1 : (splK R I x).length = R.length := splK_len (by omega)
  apply List.ext_getElem?
  intro j
  rw [List.getElem?_take]
  have hxj : ∀ t, t < I → R[t]? = xs[t]? := fun t h => by
    have := congrArg (fun l => l[t]?) ht
    simpa [List.getElem?_take, h] using this
  have e4 : (xs.take I).length = I := by simp; omega
  by_cases c0 : j < N + k
  · rw [if_pos c0, splK_get (by omega)]
    by_cases c1 : j < I
    · rw [if_neg (by omega), splK_get (by omega), if_neg (by omega), List.getElem?_append_left (by omega), List.getElem?_take, if_pos c1, hxj j (by omega)]
    · rw [List.getElem?_append_right (by omega), e4]
      by_cases c2 : j < I + k
      · rw [if_neg (by omega), splK_get (by omega), if_pos ⟨by omega, by omega⟩, List.getElem?_append_left (by omega)]
      · rw [if_pos ⟨by omega, by omega⟩, List.getElem?_append_right (by omega)]
        congr 1; omega
  · rw [if_neg c0, List.getElem?_eq_none (by simp; omega)]
/-- elements taken out, by a copy within the row. -/
theorem del_row {cur xs : List Value} {n i j k : Nat} (Z : List Value) (hx : xs.length = n * k) (hij : i ≤ j) (hj : j ≤ n) (ht : cur.take (n * k) = xs) (hl : n * k ≤ cur.length) (hZ : Z.length = (j - i) * k) :
    (splK (splK cur (i * k) (xs.drop (j * k))) ((n - (j - i)) * k) Z).take ((n - (j - i)) * k) = xs.take (i * k) ++ xs.drop (j * k) := by
  have e3 : i * k ≤ j * k := Nat.mul_le_mul_right _ hij
  have e4 : j * k ≤ n * k := Nat.mul_le_mul_right _ hj
  rw [show (n - (j - i)) * k = n * k - (j * k - i * k) by rw [Nat.sub_mul, Nat.sub_mul]]
  rw [Nat.sub_mul] at hZ
  generalize i * k = I at *
  generalize n * k = N at *
  generalize j * k = J at *
  have hdl : (xs.drop J).length = N - J := by rw [List.length_drop, hx]
  have hl1 : (splK cur I (xs.drop J)).length = cur.length := splK_len (by omega)
  have hxj : ∀ t, t < N → cur[t]? = xs[t]? := fun t h => by rw [← ht, List.getElem?_take, if_pos h]
  have e5 : (xs.take I).length = I := by simp; omega
  apply List.ext_getElem?
  intro t
  rw [List.getElem?_take]
  by_cases c0 : t < N - (J - I)
  · rw [if_pos c0, splK_get (by omega), if_neg (by omega), splK_get (by omega)]
    by_cases c1 : t < I
    · rw [if_neg (by omega), List.getElem?_append_left (by omega), List.getElem?_take, if_pos c1, hxj t (by omega)]
    · rw [if_pos ⟨by omega, by omega⟩, List.getElem?_append_right (by omega), e5]
  · rw [if_neg c0, List.getElem?_eq_none (by simp; omega)]
end Go.Proofs.Ytbkipfmnbfjkcaa
