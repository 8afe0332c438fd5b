/-
  The walks of Mix, Pair, Port and of turned numbers, the program's and the document's own.
-/
import Derived.Test.YtlpihjbnfdfbaaaHm
namespace Go.Proofs.Ytlpihjbnfdfbaaa
open Go.RowKit
set_option linter.unusedVariables false

set_option maxHeartbeats 400000 in
theorem mix_any (n : BitVec 64) (w : World) :
    Calls Try.prog 82 #[uV n] w fun e w' => e = .returned (uV (mixB n)) ∧ w = w' := by
  have h : ∀ k : Int, Calls Try.prog 82 #[.int .u64 k] w fun e w' => e = .returned (.int .u64 (mixI k)) ∧ w = w' := by
    intro k
    go_enter Try.func82, Try.ntmps82
    go_wp2
    go_ret
    exact ⟨rfl, rfl⟩
  refine (h _).mono fun e w' ⟨he, hw⟩ => ⟨?_, hw⟩
  rw [he, mixI_eq]; rfl

set_option maxHeartbeats 400000 in
theorem refmix_any (n : BitVec 64) (w : World) :
    Calls Try.prog 83 #[uV n] w fun e w' => e = .returned (uV (mixB n)) ∧ w = w' := by
  have h : ∀ k : Int, Calls Try.prog 83 #[.int .u64 k] w fun e w' => e = .returned (.int .u64 (mixI k)) ∧ w = w' := by
    intro k
    go_enter Try.func83, Try.ntmps83
    go_wp2
    go_ret
    exact ⟨rfl, rfl⟩
  refine (h _).mono fun e w' ⟨he, hw⟩ => ⟨?_, hw⟩
  rw [he, mixI_eq]; rfl

set_option maxHeartbeats 400000 in
theorem pair_any (s a b : BitVec 64) (w : World) :
    Calls Try.prog 64 #[uV s, uV a, uV b] w fun e w' => e = .returned (uV (pairB s a b)) ∧ w = w' := by
  unfold uV
  go_enter Try.func64, Try.ntmps64
  go_wp2_with fail
  refine (mix_any s _).mono ?_
  rintro e w' ⟨rfl, rfl⟩
  unfold uV
  go_wp2_with fail
  rw [c_xor]
  refine (mix_any _ _).mono ?_
  rintro e w' ⟨rfl, rfl⟩
  unfold uV
  go_wp2_with fail
  rw [c_xor]
  refine (mix_any _ _).mono ?_
  rintro e w' ⟨rfl, rfl⟩
  unfold uV
  go_wp2
  go_ret
  exact ⟨rfl, rfl⟩

set_option maxHeartbeats 400000 in
theorem refpair_any (s a b : BitVec 64) (w : World) :
    Calls Try.prog 66 #[uV s, uV a, uV b] w fun e w' => e = .returned (uV (pairB s a b)) ∧ w = w' := by
  unfold uV
  go_enter Try.func66, Try.ntmps66
  go_wp2_with fail
  refine (refmix_any s _).mono ?_
  rintro e w' ⟨rfl, rfl⟩
  unfold uV
  go_wp2_with fail
  rw [c_xor]
  refine (refmix_any _ _).mono ?_
  rintro e w' ⟨rfl, rfl⟩
  unfold uV
  go_wp2_with fail
  rw [c_xor]
  refine (refmix_any _ _).mono ?_
  rintro e w' ⟨rfl, rfl⟩
  unfold uV
  go_wp2
  go_ret
  exact ⟨rfl, rfl⟩

/-- the turns that rounds make. -/
def Turn5 (k : Nat) : Prop := k = 13 ∨ k = 16 ∨ k = 17 ∨ k = 21 ∨ k = 32
theorem rot_lit (x : BitVec 64) (k : Nat) (a b : Int) (ha : a = ((2 ^ k : Nat) : Int)) (hb : b = ((2 ^ (64 - k) : Nat) : Int)) :
    bits .or .u64 (IntKind.u64.wrap ((x.toNat : Int) * a)) ((x.toNat : Int) / b) = ((rotB k x).toNat : Int) := by
  rw [c_shl x k a ha, c_shr x (64 - k) b hb, c_or]; rfl
theorem emod_cast (x : BitVec 64) : (x.toNat : Int) % 16384 = ((x.toNat % 16384 : Nat) : Int) := by simp
end Go.Proofs.Ytlpihjbnfdfbaaa
