/-
  How often news are told among so many: Times, the program's.
-/
import Derived.Test.YtajpibopknpmmaaGl
namespace Go.Proofs.Ytajpibopknpmmaa
open Go.RowKit
set_option maxRecDepth 100000
set_option linter.unusedVariables false
set_option linter.unusedSimpArgs false

set_option maxHeartbeats 2000000 in
theorem times_any (w : World) (n : Int) (hn : -9223372036854775808 ≤ n ∧ n ≤ 9223372036854775807) : Calls Try.prog 23 #[.int .i64 n] w fun e w' => e = .returned (.int .i64 (timesN n : Nat)) ∧ w' = w := by
  have hlen : Go.Lib.bitLen (max n 1).toNat ≤ 64 := Go.Lib.bitLen_le _ 64 (Nat.le_refl _) (by omega)
  have KB := bitsLen_any (max n 1).toNat w (by omega)
  obtain ⟨m, hm⟩ : ∃ m, m = Go.Lib.bitLen (max n 1).toNat := ⟨_, rfl⟩
  have HT : Hid ((3 * m : Nat) = timesN n) := hide (by rw [hm]; rfl)
  rw [← hm] at KB hlen
  have hz : (((max n 1).toNat : Nat) : Int) = max n 1 := by omega
  rw [hz] at KB
  clear hm hz
  have HG : Hid (∀ k : Int, k = 3 * (m : Int) → Ending.returned (.int .i64 k) = Ending.returned (.int .i64 (timesN n : Nat))) := hide (fun k hk => by rw [hk, ← HT.out]; simp)
  have hww : IntKind.i64.wrap (3 * (m : Int)) = 3 * (m : Int) := by rw [IntKind.wrap_i64]; omega
  have hlen' : (m : Int) ≤ 64 := by omega
  clear HT
  go_enter Try.func23, Try.ntmps23
  go_wp2_with fail
  refine KB.mono ?_
  rintro e w' ⟨rfl, rfl⟩
  dsimp only
  go_wp2
  go_ret
  exact ⟨HG.out _ (by rfl), rfl⟩
end Go.Proofs.Ytajpibopknpmmaa
