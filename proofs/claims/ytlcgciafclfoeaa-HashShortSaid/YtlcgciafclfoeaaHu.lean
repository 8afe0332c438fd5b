/-
  The walk of the document's own round.
-/
import Derived.Test.YtlcgciafclfoeaaHt
namespace Go.Proofs.Ytlcgciafclfoeaa
open Go.RowKit
set_option linter.unusedVariables false

theorem turnL_any (x : BitVec 64) (k : Nat) (K : Int) (hK : K = (k : Int)) (hk : Turn5 k) (w : World) :
    Calls Try.prog 30 #[.int .u64 (x.toNat : Int), .int .u64 K] w fun e w' => e = .returned (.int .u64 ((rotB k x).toNat : Int)) ∧ w = w' := by
  subst hK; exact turn_any x k hk w
theorem StH.other {w : World} {g : Nat} {t : TypeId} {s : Sip4} (h : StH w g t s) (a : Addr) (v : Value) (hne : g ≠ a.block) : StH (w.setCell a v) g t s := (Below.heap_setCell w a v g hne).trans h

set_option maxHeartbeats 4000000 in
theorem refround_any (w : World) (a0 b0 c0 d0 : BitVec 64) :
    Calls Try.prog 25 #[.agg (⟨a0, b0, c0, d0⟩ : Sip4).vals] w fun e w' => e = .returned (.agg (roundS ⟨a0, b0, c0, d0⟩).vals) ∧ Below w.heap.size w w' := by
  unfold Sip4.vals uV
  go_enter Try.func25, Try.ntmps25
  go_wp2_with fail
  rw [c_add]

  obtain ⟨a1, ea1⟩ : ∃ x, x = a0 + b0 := ⟨_, rfl⟩
  rw [← ea1]
  have Ea1 := hide ea1
  clear ea1
  have hSW0 : StH ((w.alloc (.cells (⟨a1, b0, c0, d0⟩ : Sip4).vals 49)).alloc (.cells #[.int .u64 0, .int .u64 0, .int .u64 0, .int .u64 0] 49)) w.heap.size 49 ⟨a1, b0, c0, d0⟩ := (Below.heap_alloc _ _ _ (by simp)).trans (heap_alloc_new w _)
  have hRW0 : StH ((w.alloc (.cells (⟨a1, b0, c0, d0⟩ : Sip4).vals 49)).alloc (.cells #[.int .u64 0, .int .u64 0, .int .u64 0, .int .u64 0] 49)) (w.heap.size + 1) 49 ⟨0#64, 0#64, 0#64, 0#64⟩ := by
    have h := heap_alloc_new (w.alloc (.cells (⟨a1, b0, c0, d0⟩ : Sip4).vals 49)) (.cells #[.int .u64 0, .int .u64 0, .int .u64 0, .int .u64 0] 49)
    have e : (w.alloc (.cells (⟨a1, b0, c0, d0⟩ : Sip4).vals 49)).heap.size = w.heap.size + 1 := by simp
    rw [e] at h
    exact h
  have hBW0 : Below w.heap.size w ((w.alloc (.cells (⟨a1, b0, c0, d0⟩ : Sip4).vals 49)).alloc (.cells #[.int .u64 0, .int .u64 0, .int .u64 0, .int .u64 0] 49)) := ((Below.refl _ _).alloc (Nat.le_refl _) _).alloc (by simp) _
  unfold Sip4.vals uV at hSW0 hRW0 hBW0
  simp only [] at hSW0 hRW0 hBW0
  generalize ((w.alloc (.cells #[.int .u64 (a1.toNat : Int), .int .u64 (b0.toNat : Int), .int .u64 (c0.toNat : Int), .int .u64 (d0.toNat : Int)] 49)).alloc (.cells #[.int .u64 0, .int .u64 0, .int .u64 0, .int .u64 0] 49)) = W0 at hSW0 hRW0 hBW0 ⊢
  have k1 : W0.drew.cell? ⟨w.heap.size, 1, none⟩ = some (.int .u64 (b0.toNat : Int)) := hSW0.c1
  have k0 : W0.drew.cell? ⟨w.heap.size, 0, none⟩ = some (.int .u64 (a1.toNat : Int)) := hSW0.c0
  have f1 : W0.drew.frozen? ⟨w.heap.size, 1, none⟩ = false := hSW0.fr 1
  have K : Calls Try.prog 30 #[.int .u64 (b0.toNat : Int), .int .u64 13] W0.drew fun e w'' => e = .returned (.int .u64 ((rotB 13 b0).toNat : Int)) ∧ w'' = W0.drew := (turn_any b0 13 (by unfold Turn5; simp) W0.drew).mono fun _ _ h => ⟨h.1, h.2.symm⟩
  refine wp_region_still_tail 7 (by kernel_rfl) (by kernel_rfl) ?_
  simp only [List.take_succ_cons, List.take_zero, List.drop_succ_cons, List.drop_zero]
  change wpStill _ _ W0.drew _ _ _
  repeat (first | still_step | (still_call K))
  refine wpStill_nil ?_
  change wpList _ _ _ _ _ W0.drew
  rw [c_xor]
  clear K
  clear f1 k0 k1
  obtain ⟨W1, hW1⟩ : ∃ V, V = W0.drew := ⟨_, rfl⟩
  have hSW1 : StH W1 w.heap.size 49 (⟨a1, b0, c0, d0⟩ : Sip4) := by rw [hW1]; exact hSW0
  have hBW1 : Below w.heap.size w W1 := by rw [hW1]; exact hBW0.drew
  have hRW1 : StH W1 (w.heap.size + 1) 49 ⟨0#64, 0#64, 0#64, 0#64⟩ := by rw [hW1]; exact hRW0
  rw [← hW1]
  clear hW1 hSW0 hBW0 hRW0
  obtain ⟨b1, eb1⟩ : ∃ x, x = rotB 13 b0 ^^^ a1 := ⟨_, rfl⟩
  rw [← eb1]
  have Eb1 := hide eb1
  clear eb1
  have k1 : W1.cell? ⟨w.heap.size, 1, none⟩ = some (.int .u64 (b0.toNat : Int)) := hSW1.c1
  have k0 : W1.cell? ⟨w.heap.size, 0, none⟩ = some (.int .u64 (a1.toNat : Int)) := hSW1.c0
  have f1 : W1.frozen? ⟨w.heap.size, 1, none⟩ = false := hSW1.fr 1
  go_wp2_with fail
  have hSW2 : StH (World.setCell W1 ⟨w.heap.size, 1, none⟩ (Value.int IntKind.u64 (b1.toNat : Int))) w.heap.size 49 (⟨a1, b1, c0, d0⟩ : Sip4) := (StH.set (s' := (⟨a1, b1, c0, d0⟩ : Sip4)) hSW1 1 b1 rfl)
  have hBW2 : Below w.heap.size w (World.setCell W1 ⟨w.heap.size, 1, none⟩ (Value.int IntKind.u64 (b1.toNat : Int))) := (Below.setCell hBW1 (p := ⟨w.heap.size, 1, none⟩) (Nat.le_refl _) _)
  have hRW2 : StH (World.setCell W1 ⟨w.heap.size, 1, none⟩ (Value.int IntKind.u64 (b1.toNat : Int))) (w.heap.size + 1) 49 ⟨0#64, 0#64, 0#64, 0#64⟩ := (StH.other hRW1 ⟨w.heap.size, 1, none⟩ _ (by simp))
  generalize (World.setCell W1 ⟨w.heap.size, 1, none⟩ (Value.int IntKind.u64 (b1.toNat : Int))) = W2 at hSW2 hBW2 hRW2 ⊢
  clear hSW1 hBW1 hRW1
  clear f1 k0 k1
  refine (turnL_any a1 32 32 rfl (by unfold Turn5; simp) _).mono ?_
  rintro e w' ⟨rfl, rfl⟩
  obtain ⟨a2, ea2⟩ : ∃ x, x = rotB 32 a1 := ⟨_, rfl⟩
  rw [← ea2]
  have Ea2 := hide ea2
  clear ea2
  have k2 : W2.cell? ⟨w.heap.size, 2, none⟩ = some (.int .u64 (c0.toNat : Int)) := hSW2.c2
  have k3 : W2.cell? ⟨w.heap.size, 3, none⟩ = some (.int .u64 (d0.toNat : Int)) := hSW2.c3
  have f2 : W2.frozen? ⟨w.heap.size, 2, none⟩ = false := hSW2.fr 2
  have f0 : W2.frozen? ⟨w.heap.size, 0, none⟩ = false := hSW2.fr 0
  have k0 : W2.cell? ⟨w.heap.size, 0, none⟩ = some (.int .u64 (a1.toNat : Int)) := hSW2.c0
  go_wp2_with fail
  rw [c_add]
  obtain ⟨c1, ec1⟩ : ∃ x, x = c0 + d0 := ⟨_, rfl⟩
  rw [← ec1]
  have Ec1 := hide ec1
  clear ec1
  have hSW3 : StH (World.setCell (World.setCell W2 ⟨w.heap.size, 0, none⟩ (Value.int IntKind.u64 (a2.toNat : Int))) ⟨w.heap.size, 2, none⟩ (Value.int IntKind.u64 (c1.toNat : Int))) w.heap.size 49 (⟨a2, b1, c1, d0⟩ : Sip4) := (StH.set (s' := (⟨a2, b1, c1, d0⟩ : Sip4)) (StH.set (s' := (⟨a2, b1, c0, d0⟩ : Sip4)) hSW2 0 a2 rfl) 2 c1 rfl)
  have hBW3 : Below w.heap.size w (World.setCell (World.setCell W2 ⟨w.heap.size, 0, none⟩ (Value.int IntKind.u64 (a2.toNat : Int))) ⟨w.heap.size, 2, none⟩ (Value.int IntKind.u64 (c1.toNat : Int))) := (Below.setCell (Below.setCell hBW2 (p := ⟨w.heap.size, 0, none⟩) (Nat.le_refl _) _) (p := ⟨w.heap.size, 2, none⟩) (Nat.le_refl _) _)
  have hRW3 : StH (World.setCell (World.setCell W2 ⟨w.heap.size, 0, none⟩ (Value.int IntKind.u64 (a2.toNat : Int))) ⟨w.heap.size, 2, none⟩ (Value.int IntKind.u64 (c1.toNat : Int))) (w.heap.size + 1) 49 ⟨0#64, 0#64, 0#64, 0#64⟩ := (StH.other (StH.other hRW2 ⟨w.heap.size, 0, none⟩ _ (by simp)) ⟨w.heap.size, 2, none⟩ _ (by simp))
  generalize (World.setCell (World.setCell W2 ⟨w.heap.size, 0, none⟩ (Value.int IntKind.u64 (a2.toNat : Int))) ⟨w.heap.size, 2, none⟩ (Value.int IntKind.u64 (c1.toNat : Int))) = W3 at hSW3 hBW3 hRW3 ⊢
  clear hSW2 hBW2 hRW2
  clear f0 f2 k0 k2 k3
  have k3 : W3.drew.cell? ⟨w.heap.size, 3, none⟩ = some (.int .u64 (d0.toNat : Int)) := hSW3.c3
  have k2 : W3.drew.cell? ⟨w.heap.size, 2, none⟩ = some (.int .u64 (c1.toNat : Int)) := hSW3.c2
  have f3 : W3.drew.frozen? ⟨w.heap.size, 3, none⟩ = false := hSW3.fr 3
  have K : Calls Try.prog 30 #[.int .u64 (d0.toNat : Int), .int .u64 16] W3.drew fun e w'' => e = .returned (.int .u64 ((rotB 16 d0).toNat : Int)) ∧ w'' = W3.drew := (turn_any d0 16 (by unfold Turn5; simp) W3.drew).mono fun _ _ h => ⟨h.1, h.2.symm⟩
  refine wp_region_still_tail 7 (by kernel_rfl) (by kernel_rfl) ?_
  simp only [List.take_succ_cons, List.take_zero, List.drop_succ_cons, List.drop_zero]
  change wpStill _ _ W3.drew _ _ _
  repeat (first | still_step | (still_call K))
  refine wpStill_nil ?_
  change wpList _ _ _ _ _ W3.drew
  rw [c_xor]
  clear K
  clear f3 k2 k3
  obtain ⟨W4, hW4⟩ : ∃ V, V = W3.drew := ⟨_, rfl⟩
  have hSW4 : StH W4 w.heap.size 49 (⟨a2, b1, c1, d0⟩ : Sip4) := by rw [hW4]; exact hSW3
  have hBW4 : Below w.heap.size w W4 := by rw [hW4]; exact hBW3.drew
  have hRW4 : StH W4 (w.heap.size + 1) 49 ⟨0#64, 0#64, 0#64, 0#64⟩ := by rw [hW4]; exact hRW3
  rw [← hW4]
  clear hW4 hSW3 hBW3 hRW3
  obtain ⟨d1, ed1⟩ : ∃ x, x = rotB 16 d0 ^^^ c1 := ⟨_, rfl⟩
  rw [← ed1]
  have Ed1 := hide ed1
  clear ed1
  have k0 : W4.cell? ⟨w.heap.size, 0, none⟩ = some (.int .u64 (a2.toNat : Int)) := hSW4.c0
  have k3 : W4.cell? ⟨w.heap.size, 3, none⟩ = some (.int .u64 (d0.toNat : Int)) := hSW4.c3
  have f0 : W4.frozen? ⟨w.heap.size, 0, none⟩ = false := hSW4.fr 0
  have f3 : W4.frozen? ⟨w.heap.size, 3, none⟩ = false := hSW4.fr 3
  go_wp2_with fail
  rw [c_add]
  obtain ⟨a3, ea3⟩ : ∃ x, x = a2 + d1 := ⟨_, rfl⟩
  rw [← ea3]
  have Ea3 := hide ea3
  clear ea3
  have hSW5 : StH (World.setCell (World.setCell W4 ⟨w.heap.size, 3, none⟩ (Value.int IntKind.u64 (d1.toNat : Int))) ⟨w.heap.size, 0, none⟩ (Value.int IntKind.u64 (a3.toNat : Int))) w.heap.size 49 (⟨a3, b1, c1, d1⟩ : Sip4) := (StH.set (s' := (⟨a3, b1, c1, d1⟩ : Sip4)) (StH.set (s' := (⟨a2, b1, c1, d1⟩ : Sip4)) hSW4 3 d1 rfl) 0 a3 rfl)
  have hBW5 : Below w.heap.size w (World.setCell (World.setCell W4 ⟨w.heap.size, 3, none⟩ (Value.int IntKind.u64 (d1.toNat : Int))) ⟨w.heap.size, 0, none⟩ (Value.int IntKind.u64 (a3.toNat : Int))) := (Below.setCell (Below.setCell hBW4 (p := ⟨w.heap.size, 3, none⟩) (Nat.le_refl _) _) (p := ⟨w.heap.size, 0, none⟩) (Nat.le_refl _) _)
  have hRW5 : StH (World.setCell (World.setCell W4 ⟨w.heap.size, 3, none⟩ (Value.int IntKind.u64 (d1.toNat : Int))) ⟨w.heap.size, 0, none⟩ (Value.int IntKind.u64 (a3.toNat : Int))) (w.heap.size + 1) 49 ⟨0#64, 0#64, 0#64, 0#64⟩ := (StH.other (StH.other hRW4 ⟨w.heap.size, 3, none⟩ _ (by simp)) ⟨w.heap.size, 0, none⟩ _ (by simp))
  generalize (World.setCell (World.setCell W4 ⟨w.heap.size, 3, none⟩ (Value.int IntKind.u64 (d1.toNat : Int))) ⟨w.heap.size, 0, none⟩ (Value.int IntKind.u64 (a3.toNat : Int))) = W5 at hSW5 hBW5 hRW5 ⊢
  clear hSW4 hBW4 hRW4
  clear f0 f3 k0 k3
  have k3 : W5.drew.cell? ⟨w.heap.size, 3, none⟩ = some (.int .u64 (d1.toNat : Int)) := hSW5.c3
  have k0 : W5.drew.cell? ⟨w.heap.size, 0, none⟩ = some (.int .u64 (a3.toNat : Int)) := hSW5.c0
  have f3 : W5.drew.frozen? ⟨w.heap.size, 3, none⟩ = false := hSW5.fr 3
  have K : Calls Try.prog 30 #[.int .u64 (d1.toNat : Int), .int .u64 21] W5.drew fun e w'' => e = .returned (.int .u64 ((rotB 21 d1).toNat : Int)) ∧ w'' = W5.drew := (turn_any d1 21 (by unfold Turn5; simp) W5.drew).mono fun _ _ h => ⟨h.1, h.2.symm⟩
  refine wp_region_still_tail 7 (by kernel_rfl) (by kernel_rfl) ?_
  simp only [List.take_succ_cons, List.take_zero, List.drop_succ_cons, List.drop_zero]
  change wpStill _ _ W5.drew _ _ _
  repeat (first | still_step | (still_call K))
  refine wpStill_nil ?_
  change wpList _ _ _ _ _ W5.drew
  rw [c_xor]
  clear K
  clear f3 k0 k3
  obtain ⟨W6, hW6⟩ : ∃ V, V = W5.drew := ⟨_, rfl⟩
  have hSW6 : StH W6 w.heap.size 49 (⟨a3, b1, c1, d1⟩ : Sip4) := by rw [hW6]; exact hSW5
  have hBW6 : Below w.heap.size w W6 := by rw [hW6]; exact hBW5.drew
  have hRW6 : StH W6 (w.heap.size + 1) 49 ⟨0#64, 0#64, 0#64, 0#64⟩ := by rw [hW6]; exact hRW5
  rw [← hW6]
  clear hW6 hSW5 hBW5 hRW5
  obtain ⟨d2, ed2⟩ : ∃ x, x = rotB 21 d1 ^^^ a3 := ⟨_, rfl⟩
  rw [← ed2]
  have Ed2 := hide ed2
  clear ed2
  have k1 : W6.cell? ⟨w.heap.size, 1, none⟩ = some (.int .u64 (b1.toNat : Int)) := hSW6.c1
  have k2 : W6.cell? ⟨w.heap.size, 2, none⟩ = some (.int .u64 (c1.toNat : Int)) := hSW6.c2
  have k3 : W6.cell? ⟨w.heap.size, 3, none⟩ = some (.int .u64 (d1.toNat : Int)) := hSW6.c3
  have f2 : W6.frozen? ⟨w.heap.size, 2, none⟩ = false := hSW6.fr 2
  have f3 : W6.frozen? ⟨w.heap.size, 3, none⟩ = false := hSW6.fr 3
  go_wp2_with fail
  rw [c_add]
  obtain ⟨c2, ec2⟩ : ∃ x, x = c1 + b1 := ⟨_, rfl⟩
  rw [← ec2]
  have Ec2 := hide ec2
  clear ec2
  have hSW7 : StH (World.setCell (World.setCell W6 ⟨w.heap.size, 3, none⟩ (Value.int IntKind.u64 (d2.toNat : Int))) ⟨w.heap.size, 2, none⟩ (Value.int IntKind.u64 (c2.toNat : Int))) w.heap.size 49 (⟨a3, b1, c2, d2⟩ : Sip4) := (StH.set (s' := (⟨a3, b1, c2, d2⟩ : Sip4)) (StH.set (s' := (⟨a3, b1, c1, d2⟩ : Sip4)) hSW6 3 d2 rfl) 2 c2 rfl)
  have hBW7 : Below w.heap.size w (World.setCell (World.setCell W6 ⟨w.heap.size, 3, none⟩ (Value.int IntKind.u64 (d2.toNat : Int))) ⟨w.heap.size, 2, none⟩ (Value.int IntKind.u64 (c2.toNat : Int))) := (Below.setCell (Below.setCell hBW6 (p := ⟨w.heap.size, 3, none⟩) (Nat.le_refl _) _) (p := ⟨w.heap.size, 2, none⟩) (Nat.le_refl _) _)
  have hRW7 : StH (World.setCell (World.setCell W6 ⟨w.heap.size, 3, none⟩ (Value.int IntKind.u64 (d2.toNat : Int))) ⟨w.heap.size, 2, none⟩ (Value.int IntKind.u64 (c2.toNat : Int))) (w.heap.size + 1) 49 ⟨0#64, 0#64, 0#64, 0#64⟩ := (StH.other (StH.other hRW6 ⟨w.heap.size, 3, none⟩ _ (by simp)) ⟨w.heap.size, 2, none⟩ _ (by simp))
  generalize (World.setCell (World.setCell W6 ⟨w.heap.size, 3, none⟩ (Value.int IntKind.u64 (d2.toNat : Int))) ⟨w.heap.size, 2, none⟩ (Value.int IntKind.u64 (c2.toNat : Int))) = W7 at hSW7 hBW7 hRW7 ⊢
  clear hSW6 hBW6 hRW6
  clear f2 f3 k1 k2 k3
  have k1 : W7.drew.cell? ⟨w.heap.size, 1, none⟩ = some (.int .u64 (b1.toNat : Int)) := hSW7.c1
  have k2 : W7.drew.cell? ⟨w.heap.size, 2, none⟩ = some (.int .u64 (c2.toNat : Int)) := hSW7.c2
  have f1 : W7.drew.frozen? ⟨w.heap.size, 1, none⟩ = false := hSW7.fr 1
  have K : Calls Try.prog 30 #[.int .u64 (b1.toNat : Int), .int .u64 17] W7.drew fun e w'' => e = .returned (.int .u64 ((rotB 17 b1).toNat : Int)) ∧ w'' = W7.drew := (turn_any b1 17 (by unfold Turn5; simp) W7.drew).mono fun _ _ h => ⟨h.1, h.2.symm⟩
  refine wp_region_still_tail 7 (by kernel_rfl) (by kernel_rfl) ?_
  simp only [List.take_succ_cons, List.take_zero, List.drop_succ_cons, List.drop_zero]
  change wpStill _ _ W7.drew _ _ _
  repeat (first | still_step | (still_call K))
  refine wpStill_nil ?_
  change wpList _ _ _ _ _ W7.drew
  rw [c_xor]
  clear K
  clear f1 k1 k2
  obtain ⟨W8, hW8⟩ : ∃ V, V = W7.drew := ⟨_, rfl⟩
  have hSW8 : StH W8 w.heap.size 49 (⟨a3, b1, c2, d2⟩ : Sip4) := by rw [hW8]; exact hSW7
  have hBW8 : Below w.heap.size w W8 := by rw [hW8]; exact hBW7.drew
  have hRW8 : StH W8 (w.heap.size + 1) 49 ⟨0#64, 0#64, 0#64, 0#64⟩ := by rw [hW8]; exact hRW7
  rw [← hW8]
  clear hW8 hSW7 hBW7 hRW7
  obtain ⟨b2, eb2⟩ : ∃ x, x = rotB 17 b1 ^^^ c2 := ⟨_, rfl⟩
  rw [← eb2]
  have Eb2 := hide eb2
  clear eb2
  have k1 : W8.cell? ⟨w.heap.size, 1, none⟩ = some (.int .u64 (b1.toNat : Int)) := hSW8.c1
  have k2 : W8.cell? ⟨w.heap.size, 2, none⟩ = some (.int .u64 (c2.toNat : Int)) := hSW8.c2
  have f1 : W8.frozen? ⟨w.heap.size, 1, none⟩ = false := hSW8.fr 1
  go_wp2_with fail
  have hSW9 : StH (World.setCell W8 ⟨w.heap.size, 1, none⟩ (Value.int IntKind.u64 (b2.toNat : Int))) w.heap.size 49 (⟨a3, b2, c2, d2⟩ : Sip4) := (StH.set (s' := (⟨a3, b2, c2, d2⟩ : Sip4)) hSW8 1 b2 rfl)
  have hBW9 : Below w.heap.size w (World.setCell W8 ⟨w.heap.size, 1, none⟩ (Value.int IntKind.u64 (b2.toNat : Int))) := (Below.setCell hBW8 (p := ⟨w.heap.size, 1, none⟩) (Nat.le_refl _) _)
  have hRW9 : StH (World.setCell W8 ⟨w.heap.size, 1, none⟩ (Value.int IntKind.u64 (b2.toNat : Int))) (w.heap.size + 1) 49 ⟨0#64, 0#64, 0#64, 0#64⟩ := (StH.other hRW8 ⟨w.heap.size, 1, none⟩ _ (by simp))
  generalize (World.setCell W8 ⟨w.heap.size, 1, none⟩ (Value.int IntKind.u64 (b2.toNat : Int))) = W9 at hSW9 hBW9 hRW9 ⊢
  clear hSW8 hBW8 hRW8
  clear f1 k1 k2
  refine (turnL_any c2 32 32 rfl (by unfold Turn5; simp) _).mono ?_
  rintro e w' ⟨rfl, rfl⟩
  obtain ⟨c3, ec3⟩ : ∃ x, x = rotB 32 c2 := ⟨_, rfl⟩
  rw [← ec3]
  have Ec3 := hide ec3
  clear ec3
  have k0 : W9.cell? ⟨w.heap.size, 0, none⟩ = some (.int .u64 (a3.toNat : Int)) := hSW9.c0
  have k1 : W9.cell? ⟨w.heap.size, 1, none⟩ = some (.int .u64 (b2.toNat : Int)) := hSW9.c1
  have k2 : W9.cell? ⟨w.heap.size, 2, none⟩ = some (.int .u64 (c2.toNat : Int)) := hSW9.c2
  have k3 : W9.cell? ⟨w.heap.size, 3, none⟩ = some (.int .u64 (d2.toNat : Int)) := hSW9.c3
  have f0 : W9.frozen? ⟨w.heap.size, 0, none⟩ = false := hSW9.fr 0
  have f1 : W9.frozen? ⟨w.heap.size, 1, none⟩ = false := hSW9.fr 1
  have f2 : W9.frozen? ⟨w.heap.size, 2, none⟩ = false := hSW9.fr 2
  have f3 : W9.frozen? ⟨w.heap.size, 3, none⟩ = false := hSW9.fr 3
  have r0 : W9.cell? ⟨w.heap.size + 1, 0, none⟩ = some (.int .u64 0) := hRW9.c0
  have q0 : W9.frozen? ⟨w.heap.size + 1, 0, none⟩ = false := hRW9.fr 0
  have r1 : W9.cell? ⟨w.heap.size + 1, 1, none⟩ = some (.int .u64 0) := hRW9.c1
  have q1 : W9.frozen? ⟨w.heap.size + 1, 1, none⟩ = false := hRW9.fr 1
  have r2 : W9.cell? ⟨w.heap.size + 1, 2, none⟩ = some (.int .u64 0) := hRW9.c2
  have q2 : W9.frozen? ⟨w.heap.size + 1, 2, none⟩ = false := hRW9.fr 2
  have r3 : W9.cell? ⟨w.heap.size + 1, 3, none⟩ = some (.int .u64 0) := hRW9.c3
  have q3 : W9.frozen? ⟨w.heap.size + 1, 3, none⟩ = false := hRW9.fr 3
  have HR : Hid (roundS ⟨a0, b0, c0, d0⟩ = (⟨a3, b2, c3, d2⟩ : Sip4)) := hide (by have e := Ec3.out; subst e; have e := Eb2.out; subst e; have e := Ec2.out; subst e; have e := Ed2.out; subst e; have e := Ea3.out; subst e; have e := Ed1.out; subst e; have e := Ec1.out; subst e; have e := Ea2.out; subst e; have e := Eb1.out; subst e; have e := Ea1.out; subst e; rfl)
  go_wp2_with fail
  have hF : StH (World.setCell (World.setCell (World.setCell (World.setCell (W9.setCell ⟨w.heap.size, 2, none⟩ (Value.int IntKind.u64 (c3.toNat : Int))) ⟨w.heap.size + 1, 0, none⟩ (Value.int IntKind.u64 (a3.toNat : Int))) ⟨w.heap.size + 1, 1, none⟩ (Value.int IntKind.u64 (b2.toNat : Int))) ⟨w.heap.size + 1, 2, none⟩ (Value.int IntKind.u64 (c3.toNat : Int))) ⟨w.heap.size + 1, 3, none⟩ (Value.int IntKind.u64 (d2.toNat : Int))) (w.heap.size + 1) 49 (⟨a3, b2, c3, d2⟩ : Sip4) := (StH.set (s' := (⟨a3, b2, c3, d2⟩ : Sip4)) (StH.set (s' := (⟨a3, b2, c3, 0#64⟩ : Sip4)) (StH.set (s' := (⟨a3, b2, 0#64, 0#64⟩ : Sip4)) (StH.set (s' := (⟨a3, 0#64, 0#64, 0#64⟩ : Sip4)) (StH.other hRW9 ⟨w.heap.size, 2, none⟩ (uV c3) (by simp)) 0 a3 rfl) 1 b2 rfl) 2 c3 rfl) 3 d2 rfl)
  have hBF : Below w.heap.size w (World.setCell (World.setCell (World.setCell (World.setCell (W9.setCell ⟨w.heap.size, 2, none⟩ (Value.int IntKind.u64 (c3.toNat : Int))) ⟨w.heap.size + 1, 0, none⟩ (Value.int IntKind.u64 (a3.toNat : Int))) ⟨w.heap.size + 1, 1, none⟩ (Value.int IntKind.u64 (b2.toNat : Int))) ⟨w.heap.size + 1, 2, none⟩ (Value.int IntKind.u64 (c3.toNat : Int))) ⟨w.heap.size + 1, 3, none⟩ (Value.int IntKind.u64 (d2.toNat : Int))) := (Below.setCell (Below.setCell (Below.setCell (Below.setCell (Below.setCell hBW9 (p := ⟨w.heap.size, 2, none⟩) (Nat.le_refl _) _) (p := ⟨w.heap.size + 1, 0, none⟩) (by simp) _) (p := ⟨w.heap.size + 1, 1, none⟩) (by simp) _) (p := ⟨w.heap.size + 1, 2, none⟩) (by simp) _) (p := ⟨w.heap.size + 1, 3, none⟩) (by simp) _)
  generalize (World.setCell (World.setCell (World.setCell (World.setCell (W9.setCell ⟨w.heap.size, 2, none⟩ (Value.int IntKind.u64 (c3.toNat : Int))) ⟨w.heap.size + 1, 0, none⟩ (Value.int IntKind.u64 (a3.toNat : Int))) ⟨w.heap.size + 1, 1, none⟩ (Value.int IntKind.u64 (b2.toNat : Int))) ⟨w.heap.size + 1, 2, none⟩ (Value.int IntKind.u64 (c3.toNat : Int))) ⟨w.heap.size + 1, 3, none⟩ (Value.int IntKind.u64 (d2.toNat : Int))) = WF at hF hBF ⊢
  have z0 := hF.c0
  have z1 := hF.c1
  have z2 := hF.c2
  have z3 := hF.c3
  refine bodyPost_ret (v := .agg (⟨a3, b2, c3, d2⟩ : Sip4).vals) (by simp [results, Try.results25, go_sem, z0, z1, z2, z3, Sip4.vals, uV]) rfl ⟨?_, hBF⟩
  rw [HR.out]; rfl
end Go.Proofs.Ytlcgciafclfoeaa
