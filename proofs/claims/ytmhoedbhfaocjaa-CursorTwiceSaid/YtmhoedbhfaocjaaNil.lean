/-
  A word for the rows: an argument that is a nil slice has no capacity.
-/
import Derived.Test.YtmhoedbhfaocjaaRow
import Derived.Deep.Slices
namespace Go.Proofs.Ytmhoedbhfaocjaa
open Go.ChangeShapes Go.WideShapes Go.ChangeAt Go.RowKit Go.Deep

theorem nil_slice {H : Type} {enc : TypeId × Value → H} {W : World} {t e : TypeId} {a0 : Option Addr} {len cap : Nat} {d : DataW H} {p : List MemPlace} {base : Nat} {spare : Nat → Bool} {held : Bool} (ht : Try.prog.underlying t = some (.slice e))
    (h : DataW.Trod enc Try.prog W base spare held t (.slice a0 len cap) d p) : a0 = none → cap = 0 := fun h0 => by
  subst h0
  obtain ⟨fuel, hf⟩ := h
  rcases open_slice ht hf with ⟨hcs, _⟩ | ⟨a, l, c, m, n, D, Pl, hcs, _⟩
  · simp [Value.cells] at hcs
    exact hcs.2
  · simp [Value.cells] at hcs
end Go.Proofs.Ytmhoedbhfaocjaa
