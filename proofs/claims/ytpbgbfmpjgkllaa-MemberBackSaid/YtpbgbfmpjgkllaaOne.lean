/-
  The walk of the statement CursorOne: true; nothing that was there is written.
-/
import Derived.Test.YtpbgbfmpjgkllaaLay2
import Derived.Test.YtpbgbfmpjgkllaaKnownC
import Derived.Test.YtpbgbfmpjgkllaaNum
namespace Go.Proofs.Ytpbgbfmpjgkllaa
open Go.RowKit

theorem numS_bytes (N m : Nat) : ∀ j, j ≤ m → numS (numBytes N m j) = (N / 2 ^ (8 * (m - j))) % 256 ^ j
  | 0, _ => by simp [numBytes, numS, Nat.mod_one]
  | j + 1, h => by
    rw [numBytes_succ, numS_snoc, numS_bytes N m j (by omega), UInt8.toNat_ofNat']
    have e : m - j = (m - 1 - j) + 1 := by omega
    have e2 : m - (j + 1) = m - 1 - j := by omega
    rw [e, e2, Nat.mul_add, Nat.pow_add, ← Nat.div_div_eq_div_mul, Nat.pow_succ 256 j, Nat.mul_comm (256 ^ j) 256, Nat.mod_mul]
    have h8 : 2 ^ (8 * 1) = 256 := by decide
    rw [h8]
    omega
theorem numS_all {N m : Nat} (h : N < 256 ^ m) : numS (numBytes N m m) = N := by
  rw [numS_bytes N m m (Nat.le_refl _), Nat.sub_self, Nat.mul_zero, Nat.pow_zero, Nat.div_one, Nat.mod_eq_of_lt h]
theorem numR_bytes {N m : Nat} (h : N < 256 ^ m) (h1 : 1 ≤ m) (h8 : m ≤ 8) : numR (numBytes N m m) 0 (m : Int) = (m, N, 0) := by
  have hl := length_numBytes N m m
  have e : pieceS (numBytes N m m) 0 0 (m : Int) = .got (numS (((numBytes N m m).drop 0).take m)) [] m := by
    unfold pieceS
    rw [if_pos rfl, if_pos (by omega), if_pos (by rw [hl]; omega)]; simp
  unfold numR
  rw [e, List.drop_zero, List.take_of_length_le (by rw [hl]; omega), numS_all h]
  simp

end Go.Proofs.Ytpbgbfmpjgkllaa
