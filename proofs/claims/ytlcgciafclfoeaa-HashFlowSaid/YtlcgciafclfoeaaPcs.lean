/-
  The walk of addr's pieces: those of a tuple's bytes.
-/
import Derived.Test.YtlcgciafclfoeaaRunW
import Derived.Test.YtlcgciafclfoeaaTub
namespace Go.Proofs.Ytlcgciafclfoeaa
open Go.RowKit
set_option maxRecDepth 100000

/-- the pieces of a tuple's bytes. -/
def tupOps : List (Int × Int) := [(0, 1), (0, 1), (1, 16), (1, 16), (0, 2), (0, 2)]

set_option maxHeartbeats 1000000 in
theorem pieces_any (w : World) (n : Nat) (hn : n = w.heap.size) : Calls Try.prog 33 #[] w fun e w' => e = .returned (.slice (some ⟨n, 0, none⟩) 6 6) ∧ Ops w' (n + 1) (some ⟨n, 0, none⟩) tupOps ∧ Below w.heap.size w w' ∧ w'.heap.size = n + 1 := by
  subst hn
  go_enter Try.func33, Try.ntmps33
  go_wp2
  go_ret
  exact ⟨rfl, Ops.lit w tupOps _ _ (0, 0) rfl, (Below.refl _ _).alloc (Nat.le_refl _) _, by simp⟩
end Go.Proofs.Ytlcgciafclfoeaa
