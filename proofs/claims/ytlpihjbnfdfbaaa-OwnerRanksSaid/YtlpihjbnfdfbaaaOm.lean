/-
  The statements of layer 11, of numbers as they come in.
-/
import Derived.Test.YtlpihjbnfdfbaaaOl
namespace Go.Proofs.Ytlpihjbnfdfbaaa
open Go.RowKit
set_option linter.unusedVariables false
theorem h_nat {n : Nat} (h : n < 18446744073709551616) : (n : Int) = ((BitVec.ofNat 64 n).toNat : Int) := by rw [BitVec.toNat_ofNat, Nat.mod_eq_of_lt h]
theorem ownerRanks_at (w : World) (A : Option Addr) (c : Nat) (l : List Int) (n : Nat) (h : n < 18446744073709551616) (hl : l.length ≤ 17592186044416) (hb : IntS w w.heap.size A l) (hn : A = none → c = 0) :
    Calls Try.prog 3 #[.slice A l.length c, .int .u64 (n : Int)] w fun e w' => e = .returned (.bool true) ∧ Below w.heap.size w w' := by
  rw [h_nat h]; exact ownerRanks_any w A c l _ hl hb hn
theorem ownerStays_at (w : World) (z : Int) (n : Nat) (q : Int) (h : n < 18446744073709551616) (hz0 : -9223372036854775808 ≤ z) (hz1 : z ≤ 9223372036854775807) :
    Calls Try.prog 5 #[.int .i64 z, .int .u64 (n : Int), .int .i64 q] w fun e w' => e = .returned (.bool true) ∧ Below w.heap.size w w' := by
  rw [h_nat h]; exact ownerStays_any w z _ q hz0 hz1
theorem ownerJoins_at (w : World) (z : Int) (n : Nat) (q : Int) (h : n < 18446744073709551616) :
    Calls Try.prog 6 #[.int .i64 z, .int .u64 (n : Int), .int .i64 q] w fun e w' => e = .returned (.bool true) ∧ Below w.heap.size w w' := by
  rw [h_nat h]; exact ownerJoins_any w z _ q
theorem ownerOne_at (w : World) (za zb : Int) (n : Nat) (zx zy : Int) (h : n < 18446744073709551616) :
    Calls Try.prog 7 #[.int .i64 za, .int .i64 zb, .int .u64 (n : Int), .int .i64 zx, .int .i64 zy] w fun e w' => e = .returned (.bool true) ∧ Below w.heap.size w w' := by
  rw [h_nat h]; exact ownerOne_any w za zb _ zx zy
end Go.Proofs.Ytlpihjbnfdfbaaa
