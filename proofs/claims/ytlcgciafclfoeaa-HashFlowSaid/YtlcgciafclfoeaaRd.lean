/-
  The walks of the Reader of package cursor: Err, rightSize, ahead, and the pieces that give up by a panic with their error.
-/
import Derived.Test.YtlcgciafclfoeaaLent
import Derived.WalkLawsBesides
namespace Go.Proofs.Ytlcgciafclfoeaa
open Go.RowKit
set_option maxRecDepth 100000

/-- the panic of a piece that gives up by error number er. -/
abbrev giveUp (er : Int) : Ending := .panicked [{ v := .iface 37 (.int .i64 er), recovered := false }]

set_option maxHeartbeats 400000 in
theorem rightSize_any (s : Int) (w : World) : Calls Try.prog 43 #[.int .i64 s] w fun e w' => e = .returned (.bool (decide (1 ≤ s) && decide (s ≤ 8))) ∧ w = w' := by
  by_cases h1 : 1 ≤ s
  · go_enter Try.func43, Try.ntmps43
    go_wp2
    go_ret
    exact ⟨by simp [h1], rfl⟩
  · have h1' : ¬ (s ≥ 1) := h1
    go_enter Try.func43, Try.ntmps43
    go_wp2
    go_ret
    exact ⟨by simp; omega, rfl⟩

section
variable {w w' : World} {g : Nat} {A : Option Addr} {n c k : Nat} {er : Int}
end

theorem Byt.sub {w : World} {B : Nat} {A : Option Addr} {l : List UInt8} (hb : Byt w B A l) (k m c : Nat) (hl : l.length ≤ c) : Byt w B (if c = k then A else Option.map (fun x => x.add k) A) ((l.drop k).take m) := fun hpos => by
  simp only [List.length_take, List.length_drop] at hpos
  obtain ⟨b, off, e, hlt, hc⟩ := hb (by omega)
  rw [if_neg (by omega), e]
  refine ⟨b, off + k, by rw [Option.map_some, add_none], hlt, fun i hi => ?_⟩
  simp only [List.length_take, List.length_drop] at hi
  rw [List.getElem_take, List.getElem_drop, Nat.add_assoc]
  exact hc (k + i) (by omega)

theorem Below.row {w w' : World} (h : Below w.heap.size w w') (row : Option Nat) : w.grownBy w' row := ⟨h.os, h.tape, h.output, h.size, fun k hk _ => h.block k hk⟩

end Go.Proofs.Ytlcgciafclfoeaa
