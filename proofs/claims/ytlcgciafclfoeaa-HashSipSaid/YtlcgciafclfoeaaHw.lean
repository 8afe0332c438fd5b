/-
  The walks of Mix, Pair, Port and of turned numbers, the program's and the document's own.
-/
import Derived.Test.YtlcgciafclfoeaaHm
namespace Go.Proofs.Ytlcgciafclfoeaa
open Go.RowKit
set_option linter.unusedVariables false

set_option maxHeartbeats 400000 in
theorem mix_any (n : BitVec 64) (w : World) :
    Calls Try.prog 13 #[uV n] w fun e w' => e = .returned (uV (mixB n)) ∧ w = w' := by
  have h : ∀ k : Int, Calls Try.prog 13 #[.int .u64 k] w fun e w' => e = .returned (.int .u64 (mixI k)) ∧ w = w' := by
    intro k
    go_enter Try.func13, Try.ntmps13
    go_wp2
    go_ret
    exact ⟨rfl, rfl⟩
  refine (h _).mono fun e w' ⟨he, hw⟩ => ⟨?_, hw⟩
  rw [he, mixI_eq]; rfl

set_option maxHeartbeats 400000 in
theorem refmix_any (n : BitVec 64) (w : World) :
    Calls Try.prog 14 #[uV n] w fun e w' => e = .returned (uV (mixB n)) ∧ w = w' := by
  have h : ∀ k : Int, Calls Try.prog 14 #[.int .u64 k] w fun e w' => e = .returned (.int .u64 (mixI k)) ∧ w = w' := by
    intro k
    go_enter Try.func14, Try.ntmps14
    go_wp2
    go_ret
    exact ⟨rfl, rfl⟩
  refine (h _).mono fun e w' ⟨he, hw⟩ => ⟨?_, hw⟩
  rw [he, mixI_eq]; rfl

set_option maxHeartbeats 400000 in
theorem pair_any (s a b : BitVec 64) (w : World) :
    Calls Try.prog 15 #[uV s, uV a, uV b] w fun e w' => e = .returned (uV (pairB s a b)) ∧ w = w' := by
  unfold uV
  go_enter Try.func15, Try.ntmps15
  go_wp2_with fail
  refine (mix_any s _).mono ?_
  rintro e w' ⟨rfl, rfl⟩
  unfold uV
  go_wp2_with fail
  rw [c_xor]
  refine (mix_any _ _).mono ?_
  rintro e w' ⟨rfl, rfl⟩
  unfold uV
  go_wp2_with fail
  rw [c_xor]
  refine (mix_any _ _).mono ?_
  rintro e w' ⟨rfl, rfl⟩
  unfold uV
  go_wp2
  go_ret
  exact ⟨rfl, rfl⟩

set_option maxHeartbeats 400000 in
theorem refpair_any (s a b : BitVec 64) (w : World) :
    Calls Try.prog 16 #[uV s, uV a, uV b] w fun e w' => e = .returned (uV (pairB s a b)) ∧ w = w' := by
  unfold uV
  go_enter Try.func16, Try.ntmps16
  go_wp2_with fail
  refine (refmix_any s _).mono ?_
  rintro e w' ⟨rfl, rfl⟩
  unfold uV
  go_wp2_with fail
  rw [c_xor]
  refine (refmix_any _ _).mono ?_
  rintro e w' ⟨rfl, rfl⟩
  unfold uV
  go_wp2_with fail
  rw [c_xor]
  refine (refmix_any _ _).mono ?_
  rintro e w' ⟨rfl, rfl⟩
  unfold uV
  go_wp2
  go_ret
  exact ⟨rfl, rfl⟩

/-- the turns that rounds make. -/
def Turn5 (k : Nat) : Prop := k = 13 ∨ k = 16 ∨ k = 17 ∨ k = 21 ∨ k = 32
theorem rot_lit (x : BitVec 64) (k : Nat) (a b : Int) (ha : a = ((2 ^ k : Nat) : Int)) (hb : b = ((2 ^ (64 - k) : Nat) : Int)) :
    bits .or .u64 (IntKind.u64.wrap ((x.toNat : Int) * a)) ((x.toNat : Int) / b) = ((rotB k x).toNat : Int) := by
  rw [c_shl x k a ha, c_shr x (64 - k) b hb, c_or]; rfl
set_option maxHeartbeats 1000000 in
theorem rotl_any (x : BitVec 64) (k : Nat) (hk : Turn5 k) (w : World) :
    Calls Try.prog 29 #[uV x, .int .i64 (k : Int)] w fun e w' => e = .returned (uV (rotB k x)) ∧ w = w' := by
  unfold uV
  have a1 : bits .and .u64 13 63 = 13 := by decide
  have a2 : bits .and .u64 16 63 = 16 := by decide
  have a3 : bits .and .u64 17 63 = 17 := by decide
  have a4 : bits .and .u64 21 63 = 21 := by decide
  have a5 : bits .and .u64 32 63 = 32 := by decide
  rcases hk with rfl | rfl | rfl | rfl | rfl
  all_goals
    go_enter Try.func29, Try.ntmps29
    go_wp2
    go_ret
    exact ⟨ret_int (rot_lit x _ _ _ (by decide) (by decide)), rfl⟩
set_option maxHeartbeats 1000000 in
theorem turn_any (x : BitVec 64) (k : Nat) (hk : Turn5 k) (w : World) :
    Calls Try.prog 30 #[uV x, .int .u64 (k : Int)] w fun e w' => e = .returned (uV (rotB k x)) ∧ w = w' := by
  unfold uV
  rcases hk with rfl | rfl | rfl | rfl | rfl
  all_goals
    go_enter Try.func30, Try.ntmps30
    go_wp2
    go_ret
    exact ⟨ret_int (rot_lit x _ _ _ (by decide) (by decide)), rfl⟩

theorem emod_cast (x : BitVec 64) : (x.toNat : Int) % 16384 = ((x.toNat % 16384 : Nat) : Int) := by simp
set_option maxHeartbeats 1000000 in
theorem port_any (x : BitVec 64) (w : World) :
    Calls Try.prog 19 #[uV x] w fun e w' => e = .returned (.int .i64 ((49152 + x.toNat % 16384 : Nat) : Int)) ∧ w = w' := by
  have hx := x.isLt
  have hm : x.toNat % 16384 < 16384 := Nat.mod_lt _ (by omega)
  unfold uV
  go_enter Try.func19, Try.ntmps19
  go_wp2
  go_ret
  exact ⟨ret_int (by simp), rfl⟩
set_option maxHeartbeats 1000000 in
theorem refport_any (x : BitVec 64) (w : World) :
    Calls Try.prog 20 #[uV x] w fun e w' => e = .returned (.int .i64 ((49152 + x.toNat % 16384 : Nat) : Int)) ∧ w = w' := by
  have hx := x.isLt
  have hm : x.toNat % 16384 < 16384 := Nat.mod_lt _ (by omega)
  unfold uV
  go_enter Try.func20, Try.ntmps20
  go_wp2
  go_ret
  exact ⟨ret_int (by simp), rfl⟩
end Go.Proofs.Ytlcgciafclfoeaa
