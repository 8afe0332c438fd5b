/-
  Words for the rows whose arguments are flows and packets of flows, as the document's own has them.
-/
import Derived.Test.YtbkipfmnbfjkcaaRow
import Derived.Test.YtbkipfmnbfjkcaaVa
import Derived.Deep.SlicePairs
namespace Go.Proofs.Ytbkipfmnbfjkcaa
open Go.ChangeShapes Go.WideShapes Go.ChangeAt Go.RowKit Go.Deep
set_option linter.unusedVariables false
set_option maxRecDepth 100000

theorem cells_i64V : Try.prog.cellsOf 2 = 1 := by kernel_rfl
theorem cells_intV : Try.prog.cellsOf 3 = 1 := by kernel_rfl
theorem cells_rflowV : Try.prog.cellsOf 23 = 3 := by kernel_rfl
theorem fields_rflowV : ∃ f0 f1 f2 : Field, Try.prog.underlying 23 = some (.struct #[f0, f1, f2]) ∧ (f0.type = 3 ∧ f0.offset = 0) ∧ (f1.type = 3 ∧ f1.offset = 1) ∧ (f2.type = 2 ∧ f2.offset = 2) := ⟨_, _, _, Try.underlying23, ⟨rfl, rfl⟩, ⟨rfl, rfl⟩, ⟨rfl, rfl⟩⟩
theorem trod_rflowV {H : Type} {enc : TypeId × Value → H} {W : World} {base : Nat} {spare : Nat → Bool} {held : Bool} {fuel : Nat} {cs : List Value} {x : DataW H × List MemPlace} (hsz : cs.length = 3) (h : DataW.trod enc Try.prog W base spare held fuel 23 cs = some x) :
    ∃ q : Flw, cs = [.int .i64 q.p, .int .i64 q.s, .int .i64 q.l] := by
  obtain ⟨f0, f1, f2, hu, ⟨t0, o0⟩, ⟨t1, o1⟩, ⟨t2, o2⟩⟩ := fields_rflowV
  obtain ⟨xs, n, rfl, _, hlen, hxl, hg⟩ := DataW.trod_struct hu h
  have hg0 := hg 0 f0 rfl
  have hg1 := hg 1 f1 rfl
  have hg2 := hg 2 f2 rfl
  rw [t0, o0, cells_intV] at hg0
  rw [t1, o1, cells_intV] at hg1
  rw [t2, o2, cells_i64V] at hg2
  match xs, hxl, cs, hsz with
  | [y0, y1, y2], _, [v0, v1, v2], _ =>
    obtain ⟨z0, hz0, _, _⟩ := DataW.trod_int Try.underlying3 (show DataW.trod enc Try.prog W base spare held n 3 [v0] = some y0 from hg0)
    obtain ⟨z1, hz1, _, _⟩ := DataW.trod_int Try.underlying3 (show DataW.trod enc Try.prog W base spare held n 3 [v1] = some y1 from hg1)
    obtain ⟨z2, hz2, _, _⟩ := DataW.trod_int Try.underlying2 (show DataW.trod enc Try.prog W base spare held n 2 [v2] = some y2 from hg2)
    simp at hz0 hz1 hz2
    exact ⟨⟨z0, z1, z2⟩, by rw [hz0, hz1, hz2]⟩
theorem open_rflow {H : Type} {enc : TypeId × Value → H} {W : World} {r : Reach} {b0 : Nat} {v : Value} {d : DataW H} {p : List MemPlace}
    (hv : Value.okWide Try.prog W r b0 23 v) (h : DataW.Trod enc Try.prog W 0 (fun _ => true) true 23 v d p) : ∃ q : Flw, v = flV q := by
  obtain ⟨f0, f1, f2, hu, _, _, _⟩ := fields_rflowV
  obtain ⟨cs, rfl, hsz⟩ := okWide_struct hu hv
  obtain ⟨fuel, hf⟩ := h
  obtain ⟨q, hq⟩ := trod_rflowV (by rw [Value.cells] at hf; simpa [Value.cells, cells_rflowV] using hsz) hf
  refine ⟨q, ?_⟩
  unfold flV flA
  congr 1
  apply Array.toList_inj.1
  simpa [Value.cells] using hq
end Go.Proofs.Ytbkipfmnbfjkcaa
