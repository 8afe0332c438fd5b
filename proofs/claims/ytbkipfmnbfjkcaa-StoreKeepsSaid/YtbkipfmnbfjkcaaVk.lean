/-
  Rows of elements of k cells each, as a slice reads, wherever they lie.
-/
import Derived.Test.YtbkipfmnbfjkcaaSp
import Derived.Test.YtbkipfmnbfjkcaaMp
import Derived.Test.YtbkipfmnbfjkcaaQb
namespace Go.Proofs.Ytbkipfmnbfjkcaa
open Go.RowKit
set_option linter.unusedVariables false
set_option linter.unusedSimpArgs false

/-- the slice at A reads, in world w, as elements whose cells are R, k cells each. -/
def RowK (k : Nat) (w : World) (A : Option Addr) (R : List (Array Value)) : Prop :=
  ∀ j Z, R[j]? = some Z → ∃ b off Y t fr, A = some ⟨b, off, none⟩ ∧ b < w.heap.size ∧ w.heap[b]? = some (.cells Y t fr) ∧ off + j * k + k ≤ Y.size ∧ Y.extract (off + j * k) (off + j * k + k) = Z
theorem RowK.nil (k : Nat) (w : World) (A : Option Addr) : RowK k w A [] := fun j Z h => by simp at h
theorem RowK.below {k : Nat} {w w' : World} {A : Option Addr} {R : List (Array Value)} (h : RowK k w A R) (hb : Below w.heap.size w w') : RowK k w' A R := fun j Z hj => by
  obtain ⟨b, off, Y, t, fr, e, h1, h2, h3⟩ := h j Z hj
  exact ⟨b, off, Y, t, fr, e, by have := hb.size; omega, (hb.block b h1).trans h2, h3⟩
def flatR (R : List (Array Value)) : List Value := R.flatMap (·.toList)
theorem flatR_cons (X : Array Value) (R : List (Array Value)) : flatR (X :: R) = X.toList ++ flatR R := rfl
theorem flatR_app (R S : List (Array Value)) : flatR (R ++ S) = flatR R ++ flatR S := by simp [flatR]
theorem flatR_len {k : Nat} : ∀ {R : List (Array Value)}, (∀ X ∈ R, X.size = k) → (flatR R).length = R.length * k
  | [], _ => by simp [flatR]
  | X :: R, h => by
    rw [flatR_cons, List.length_append, flatR_len (fun Y hY => h Y (List.mem_cons_of_mem _ hY)), List.length_cons, Array.length_toList, h X List.mem_cons_self]
    rw [Nat.add_mul]; omega
theorem flatR_at {k : Nat} : ∀ {R : List (Array Value)}, (∀ X ∈ R, X.size = k) → ∀ {j i : Nat} {Z : Array Value}, R[j]? = some Z → i < k → (flatR R)[j * k + i]? = Z[i]?
  | [], _, j, i, Z, h, _ => by simp at h
  | X :: R, hs, 0, i, Z, h, hi => by
    simp at h; subst h
    rw [flatR_cons, List.getElem?_append_left (by rw [Array.length_toList, hs X List.mem_cons_self]; omega)]
    simp
  | X :: R, hs, j + 1, i, Z, h, hi => by
    have hx := hs X List.mem_cons_self
    rw [flatR_cons, List.getElem?_append_right (by rw [Array.length_toList, hx, Nat.add_mul]; omega), Array.length_toList, hx]
    rw [show (j + 1) * k + i - k = j * k + i by rw [Nat.add_mul]; omega]
    exact flatR_at (fun Y hY => hs Y (List.mem_cons_of_mem _ hY)) (by simpa using h) hi
theorem rowK_span {k n : Nat} {Y : Array Value} {R : List (Array Value)} (hs : ∀ X ∈ R, X.size = k) (hk : 0 < k) (h : Y.toList.take (n * k) = flatR R) {j : Nat} {Z : Array Value} (hj : R[j]? = some Z) : j * k + k ≤ Y.size ∧ Y.extract (j * k) (j * k + k) = Z := by
  have hZ := hs Z (List.mem_of_getElem? hj)
  have at_ : ∀ i, i < k → Y[j * k + i]? = Z[i]? := fun i hi => by
    have h1 := flatR_at hs hj hi
    have h2 : (flatR R)[j * k + i]? = some Z[i] := by rw [h1]; simp [hZ, hi]
    rw [← h, List.getElem?_take] at h2
    split at h2
    · rw [Array.getElem?_toList] at h2; rw [h2]; simp [hZ, hi]
    · cases h2
  have hlast := at_ (k - 1) (by omega)
  have hle : j * k + k ≤ Y.size := by
    have h3 : Z[k - 1]? = some Z[k - 1] := by simp [hZ]
    rw [h3] at hlast
    have := (Array.getElem?_eq_some_iff.1 hlast).1
    omega
  refine ⟨hle, ?_⟩
  apply Array.ext_getElem?
  intro i
  rw [Array.getElem?_extract]
  by_cases hi : i < k
  · rw [if_pos (by omega), at_ i hi]
  · rw [if_neg (by omega)]
    rw [Array.getElem?_eq_none (by omega)]
theorem RowK.of_own {w : World} {base e k n : Nat} {v : Value} {R : List (Array Value)} (hs : ∀ X ∈ R, X.size = k) (hk : 0 < k) (h : w.ownsRow base e k v n (flatR R)) : ∃ A c, v = .slice A n c ∧ n ≤ c ∧ R.length = n ∧ RowK k w A R := by
  have hl : R.length = n := by
    have := h.1
    rw [flatR_len hs] at this
    exact Nat.eq_of_mul_eq_mul_right hk this
  rcases h.2 with ⟨rfl, rfl⟩ | ⟨g, cap, cur, rfl, hb, hg, hnc, hm, hsz, ht⟩
  · exact ⟨none, 0, rfl, by omega, hl, fun j Z hj => by
      have := (List.getElem?_eq_some_iff.1 hj).1; omega⟩
  · refine ⟨_, cap, rfl, hnc, hl, fun j Z hj => ?_⟩
    obtain ⟨h1, h2⟩ := rowK_span hs hk ht hj
    exact ⟨g, 0, cur, e, (0, 0), rfl, (Array.getElem?_eq_some_iff.1 hg).1, hg, by omega, by rw [Nat.zero_add]; exact h2⟩
/-- the single cells of an element. -/
theorem RowK.cell {k : Nat} {w : World} {b off : Nat} {Y : Array Value} {t : TypeId} {fr : Nat × Nat} {Z : Array Value} {o : Nat} (h1 : w.heap[b]? = some (.cells Y t fr)) (h3 : Y.extract o (o + k) = Z) {i : Nat} (hi : i < k) {v : Value} (hv : Z[i]? = some v) : w.cell? ⟨b, o + i, none⟩ = some v := by
  rw [cell_of_row w b (o + i) Y t fr h1]
  subst h3
  rw [Array.getElem?_extract] at hv
  split at hv
  · exact hv
  · cases hv
/-- what a cell says of its block. -/
theorem cell_blk {w : World} {b off : Nat} {v : Value} (h : w.cell? ⟨b, off, none⟩ = some v) : ∃ Y t fr, w.heap[b]? = some (.cells Y t fr) ∧ Y[off]? = some v := by
  unfold World.cell? at h
  cases hb : w.heap[b]? with
  | none => rw [hb] at h; simp at h
  | some o =>
    rw [hb] at h
    cases o with
    | cells Y t fr => exact ⟨Y, t, fr, rfl, by simpa using h⟩
    | _ => simp at h
theorem wpList_spanV {P : Program} {w : World} {ops : Array Oper} {rest : List Oper} {o : Oper} {a : Act} {Q : Exit → Act → World → Prop} (hgd : o.guard = none) (t : TypeId) (x : Operand)
    (ho : o.op = .load t x) (v : Value) (hx : a.eval x = v) {cs : Array Value} (hs : spanQ P t w v = some cs) (h : wpList P ops Q rest (a.put o.dst (.agg cs)) w) : wpList P ops Q (o :: rest) a w := by
  refine wpList_plain hgd fun K hK => ?_
  unfold Oper.wp execOp
  have := run_span hs
  simp only [ho, Sem.run_bind, Sem.run_pure, hx, this, Result.andThen_ok]
  exact hK _ _ h
theorem keepR {w w' : World} {base e k n : Nat} {v : Value} {xs : List Value} (h : w.ownsRow base e k v n xs) (hb : Below w.heap.size w w') : w'.ownsRow base e k v n xs :=
  h.kept (grown_ofB hb none) (by cases hv : v.ownBlock <;> simp)
end Go.Proofs.Ytbkipfmnbfjkcaa
