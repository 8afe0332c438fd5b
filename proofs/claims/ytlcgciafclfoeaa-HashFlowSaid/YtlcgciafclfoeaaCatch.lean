/-
  The walk of the deferred closure that catches a piece's panic, and of attempt, which begins: the error stays.
-/
import Derived.Test.YtlcgciafclfoeaaRunD
import Derived.Defers
import Derived.Recover
import Derived.RegionTactic
import Derived.ChangeAlike
namespace Go.Proofs.Ytlcgciafclfoeaa
open Go.RowKit
set_option maxRecDepth 100000

theorem assert_errno (er : Int) : ∀ W, (Instr.typeAssert (.iface 37 (.int .i64 er)) 20 37 false).run Try.prog W = .ok (.int .i64 er) W := fun _ => by kernel_rfl

/-- what a call of attempt leaves: S, and the error that stays. -/
def Stays (g : Nat) (S : Int → World → Prop) (w' : World) : Prop :=
  S 0 w' ∨ ∃ er w1, er ≠ 0 ∧ S er w1 ∧ w' = w1.drew.setCell ⟨g, 2, none⟩ (.int .i64 er)

end Go.Proofs.Ytlcgciafclfoeaa
