/-
  Words for the rows whose arguments are how a replica is seen, as the document's own has it: opened to its two numbers.
-/
import Derived.Test.YtpbgbfmpjgkllaaRow
import Derived.Test.YtpbgbfmpjgkllaaMm
namespace Go.Proofs.Ytpbgbfmpjgkllaa
open Go.ChangeShapes Go.WideShapes Go.ChangeAt Go.RowKit
set_option linter.unusedVariables false
set_option maxRecDepth 100000

theorem cells_i64M : Try.prog.cellsOf 2 = 1 := by kernel_rfl
theorem cells_intM : Try.prog.cellsOf 3 = 1 := by kernel_rfl
theorem cells_rinfM : Try.prog.cellsOf 23 = 2 := by kernel_rfl
theorem fields_rinfM : ∃ f0 f1 : Field, Try.prog.underlying 23 = some (.struct #[f0, f1]) ∧ (f0.type = 3 ∧ f0.offset = 0) ∧ (f1.type = 2 ∧ f1.offset = 1) := ⟨_, _, Try.underlying23, ⟨rfl, rfl⟩, ⟨rfl, rfl⟩⟩
theorem trod_rinfM {H : Type} {enc : TypeId × Value → H} {W : World} {base : Nat} {spare : Nat → Bool} {held : Bool} {fuel : Nat} {cs : List Value} {x : DataW H × List MemPlace} (hsz : cs.length = 2) (h : DataW.trod enc Try.prog W base spare held fuel 23 cs = some x) :
    ∃ q : Int × Int, cs = [.int .i64 q.1, .int .i64 q.2] := by
  obtain ⟨f0, f1, hu, ⟨t0, o0⟩, ⟨t1, o1⟩⟩ := fields_rinfM
  obtain ⟨xs, n, rfl, _, hlen, hxl, hg⟩ := DataW.trod_struct hu h
  have hg0 := hg 0 f0 rfl
  have hg1 := hg 1 f1 rfl
  rw [t0, o0, cells_intM] at hg0
  rw [t1, o1, cells_i64M] at hg1
  match xs, hxl, cs, hsz with
  | [y0, y1], _, [v0, v1], _ =>
    obtain ⟨z0, hz0, _, _⟩ := DataW.trod_int Try.underlying3 (show DataW.trod enc Try.prog W base spare held n 3 [v0] = some y0 from hg0)
    obtain ⟨z1, hz1, _, _⟩ := DataW.trod_int Try.underlying2 (show DataW.trod enc Try.prog W base spare held n 2 [v1] = some y1 from hg1)
    simp at hz0 hz1
    exact ⟨(z0, z1), by rw [hz0, hz1]⟩
theorem open_rinf {H : Type} {enc : TypeId × Value → H} {W : World} {r : Reach} {b0 : Nat} {v : Value} {d : DataW H} {p : List MemPlace}
    (hv : Value.okWide Try.prog W r b0 23 v) (h : DataW.Trod enc Try.prog W 0 (fun _ => true) true 23 v d p) : ∃ q : Int × Int, v = infV q := by
  obtain ⟨f0, f1, hu, _, _⟩ := fields_rinfM
  obtain ⟨cs, rfl, hsz⟩ := okWide_struct hu hv
  obtain ⟨fuel, hf⟩ := h
  obtain ⟨q, hq⟩ := trod_rinfM (by rw [Value.cells] at hf; simpa [Value.cells, cells_rinfM] using hsz) hf
  refine ⟨q, ?_⟩
  unfold infV infA
  congr 1
  apply Array.toList_inj.1
  simpa [Value.cells] using hq
end Go.Proofs.Ytpbgbfmpjgkllaa
