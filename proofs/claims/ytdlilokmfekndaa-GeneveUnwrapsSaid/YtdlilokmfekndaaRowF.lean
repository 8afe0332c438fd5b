/-
  Words for the rows whose arguments hold floats.
-/
import Derived.Test.YtdlilokmfekndaaRow
import Derived.Deep.Slices
namespace Go.Proofs.Ytdlilokmfekndaa
open Go.ChangeShapes Go.WideShapes Go.ChangeAt Go.RowKit Go.Deep

theorem wf_lt {b : Nat} (h : (Lit.float .f64 b).wf = true) : b < 2 ^ 64 := by simpa [Lit.wf] using h

theorem trod_fl {H : Type} {enc : TypeId × Value → H} {P : Program} {w : World} {base : Nat} {sp : Nat → Bool} {held : Bool} {t : TypeId} {v : Value} {x : DataW H × List MemPlace} {n : Nat} (ht : P.underlying t = some (.float .f64))
    (h : DataW.trod enc P w base sp held n t [v] = some x) : ∃ b, v = .float .f64 b ∧ b < 2 ^ 64 := by
  cases n with
  | zero => simp [DataW.trod] at h
  | succ n =>
    cases v with
    | float k b =>
      simp only [DataW.trod, ht] at h
      by_cases hk : k = .f64
      · subst hk
        by_cases hw : (Lit.float .f64 b).wf = true
        · exact ⟨b, rfl, wf_lt hw⟩
        · simp [hw] at h
      · simp [hk] at h
    | _ => simp [DataW.trod, ht] at h

theorem le_all {H : Type} {ts : List TypeId} {ds : List (DataW H)} (hsz : (DataW.weightsEach Try.prog ts ds).all (· ≤ reachBytes) = true) {j : Nat} {t : TypeId} {d : DataW H} (ht : ts[j]? = some t) (hd : ds[j]? = some d) : ∀ x ∈ d.weights Try.prog t, x ≤ 140737488351232 := fun x hx => by
  have h := List.all_eq_true.1 hsz x (DataW.weights_mem_each ht hd x hx)
  have e : reachBytes = 140737488351232 := rfl
  rw [← e]
  exact of_decide_eq_true h
end Go.Proofs.Ytdlilokmfekndaa
