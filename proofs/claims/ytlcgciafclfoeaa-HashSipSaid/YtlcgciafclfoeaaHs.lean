/-
  The walks of Sip's state, the program's: a step of two numbers, rounds, a word more.
-/
import Derived.Test.YtlcgciafclfoeaaHw
import Derived.StillTailTactics
import Derived.RegionTactic
import Derived.Lib.SmallJoins
namespace Go.Proofs.Ytlcgciafclfoeaa
open Go.RowKit
set_option linter.unusedVariables false

/-- block g holds the four numbers. -/
def StH (w : World) (g : Nat) (t : TypeId) (s : Sip4) : Prop := w.heap[g]? = some (.cells s.vals t (0, 0))
theorem StH.c0 {w : World} {g : Nat} {t : TypeId} {s : Sip4} (h : StH w g t s) : w.cell? ⟨g, 0, none⟩ = some (.int .u64 (s.a.toNat : Int)) := Go.Joins.cell_of_block h 0
theorem StH.c1 {w : World} {g : Nat} {t : TypeId} {s : Sip4} (h : StH w g t s) : w.cell? ⟨g, 1, none⟩ = some (.int .u64 (s.b.toNat : Int)) := Go.Joins.cell_of_block h 1
theorem StH.c2 {w : World} {g : Nat} {t : TypeId} {s : Sip4} (h : StH w g t s) : w.cell? ⟨g, 2, none⟩ = some (.int .u64 (s.c.toNat : Int)) := Go.Joins.cell_of_block h 2
theorem StH.c3 {w : World} {g : Nat} {t : TypeId} {s : Sip4} (h : StH w g t s) : w.cell? ⟨g, 3, none⟩ = some (.int .u64 (s.d.toNat : Int)) := Go.Joins.cell_of_block h 3
theorem StH.fr {w : World} {g : Nat} {t : TypeId} {s : Sip4} (h : StH w g t s) (i : Nat) : w.frozen? ⟨g, i, none⟩ = false := Go.Joins.unfrozen_of_block h i
theorem StH.lt {w : World} {g : Nat} {t : TypeId} {s : Sip4} (h : StH w g t s) : g < w.heap.size := (Array.getElem?_eq_some_iff.1 h).1
theorem StH.set {w : World} {g : Nat} {t : TypeId} {s s' : Sip4} (h : StH w g t s) (i : Nat) (x : BitVec 64) (e : s.vals.setIfInBounds i (uV x) = s'.vals) : StH (w.setCell ⟨g, i, none⟩ (uV x)) g t s' := by
  unfold StH
  rw [Go.Joins.block_setCell h, e]
set_option maxHeartbeats 1000000 in
theorem step01_any (w : World) (g : Nat) (s : Sip4) (h : StH w g 43 s) :
    Calls Try.prog 28 #[.pointer (some ⟨g, 0, none⟩), .int .i64 0, .int .i64 1, .int .i64 13] w fun e w' => e = .returned (.tuple #[]) ∧ StH w' g 43 (step01 13 s) ∧ Below g w w' := by
  have ci := h.c0
  have cj := h.c1
  have fi := h.fr 0
  have H : ∀ x, StH (w.setCell ⟨g, 0, none⟩ (uV x)).drew g 43 (⟨x, s.b, s.c, s.d⟩ : Sip4) := fun x => h.set 0 x rfl
  have HH := hide H
  have HS := hide h
  clear h H
  go_enter Try.func28, Try.ntmps28
  go_wp2
  go_still_tail 13, (by kernel_rfl)
  change wpList _ _ _ _ _ w.drew
  go_wp2_with fail
  rw [c_add]
  obtain ⟨S, hS⟩ : ∃ S, S = s.a + s.b := ⟨_, rfl⟩
  rw [← hS]
  have hW : StH (w.setCell ⟨g, 0, none⟩ (Value.int IntKind.u64 (S.toNat : Int))).drew g 43 _ := HH.out _
  have hB : Below g w (w.setCell ⟨g, 0, none⟩ (Value.int IntKind.u64 (S.toNat : Int))).drew := ((Below.refl g w).setCell (Nat.le_refl _) _).drew
  generalize (w.setCell ⟨g, 0, none⟩ (Value.int IntKind.u64 (S.toNat : Int))).drew = W at hW hB ⊢
  clear ci cj fi HH HS
  have ci : W.drew.cell? ⟨g, 0, none⟩ = some (.int .u64 (S.toNat : Int)) := hW.c0
  have cj : W.drew.cell? ⟨g, 1, none⟩ = some (.int .u64 (s.b.toNat : Int)) := hW.c1
  have fj : W.drew.frozen? ⟨g, 1, none⟩ = false := hW.fr 1
  have H : StH (W.drew.setCell ⟨g, 1, none⟩ (uV (rotB 13 s.b ^^^ S))) g 43 (step01 13 s) := StH.set (w := W.drew) hW 1 _ (by rw [hS]; rfl)
  have K : Calls Try.prog 29 #[.int .u64 (s.b.toNat : Int), .int .i64 13] W.drew fun e w'' => e = .returned (.int .u64 ((rotB 13 s.b).toNat : Int)) ∧ w'' = W.drew := (rotl_any s.b 13 (by unfold Turn5; simp) W.drew).mono fun _ _ h => ⟨h.1, h.2.symm⟩
  have HH := hide H
  have HB := hide hB
  clear H hW hB hS
  refine wp_region_still_tail 17 (by kernel_rfl) (by kernel_rfl) ?_
  simp only [List.take_succ_cons, List.take_zero, List.drop_succ_cons, List.drop_zero]
  change wpStill _ _ W.drew _ _ _
  repeat (first | still_step | (still_call K))
  refine wpStill_nil ?_
  change wpList _ _ _ _ _ W.drew
  obtain ⟨V, hV⟩ : ∃ V, V = W.drew := ⟨_, rfl⟩
  have HBV : Hid (Below g w V) := hide (by rw [hV]; exact HB.out.drew)
  rw [← hV] at HH ci cj fj ⊢
  clear K hV
  unfold uV at HH
  go_wp2
  go_end0
  exact ⟨rfl, by rw [c_xor]; exact HH.out, HBV.out.setCell (Nat.le_refl _) _⟩

set_option maxHeartbeats 1000000 in
theorem step23_any (w : World) (g : Nat) (s : Sip4) (h : StH w g 43 s) :
    Calls Try.prog 28 #[.pointer (some ⟨g, 0, none⟩), .int .i64 2, .int .i64 3, .int .i64 16] w fun e w' => e = .returned (.tuple #[]) ∧ StH w' g 43 (step23 16 s) ∧ Below g w w' := by
  have ci := h.c2
  have cj := h.c3
  have fi := h.fr 2
  have H : ∀ x, StH (w.setCell ⟨g, 2, none⟩ (uV x)).drew g 43 (⟨s.a, s.b, x, s.d⟩ : Sip4) := fun x => h.set 2 x rfl
  have HH := hide H
  have HS := hide h
  clear h H
  go_enter Try.func28, Try.ntmps28
  go_wp2
  go_still_tail 13, (by kernel_rfl)
  change wpList _ _ _ _ _ w.drew
  go_wp2_with fail
  rw [c_add]
  obtain ⟨S, hS⟩ : ∃ S, S = s.c + s.d := ⟨_, rfl⟩
  rw [← hS]
  have hW : StH (w.setCell ⟨g, 2, none⟩ (Value.int IntKind.u64 (S.toNat : Int))).drew g 43 _ := HH.out _
  have hB : Below g w (w.setCell ⟨g, 2, none⟩ (Value.int IntKind.u64 (S.toNat : Int))).drew := ((Below.refl g w).setCell (Nat.le_refl _) _).drew
  generalize (w.setCell ⟨g, 2, none⟩ (Value.int IntKind.u64 (S.toNat : Int))).drew = W at hW hB ⊢
  clear ci cj fi HH HS
  have ci : W.drew.cell? ⟨g, 2, none⟩ = some (.int .u64 (S.toNat : Int)) := hW.c2
  have cj : W.drew.cell? ⟨g, 3, none⟩ = some (.int .u64 (s.d.toNat : Int)) := hW.c3
  have fj : W.drew.frozen? ⟨g, 3, none⟩ = false := hW.fr 3
  have H : StH (W.drew.setCell ⟨g, 3, none⟩ (uV (rotB 16 s.d ^^^ S))) g 43 (step23 16 s) := StH.set (w := W.drew) hW 3 _ (by rw [hS]; rfl)
  have K : Calls Try.prog 29 #[.int .u64 (s.d.toNat : Int), .int .i64 16] W.drew fun e w'' => e = .returned (.int .u64 ((rotB 16 s.d).toNat : Int)) ∧ w'' = W.drew := (rotl_any s.d 16 (by unfold Turn5; simp) W.drew).mono fun _ _ h => ⟨h.1, h.2.symm⟩
  have HH := hide H
  have HB := hide hB
  clear H hW hB hS
  refine wp_region_still_tail 17 (by kernel_rfl) (by kernel_rfl) ?_
  simp only [List.take_succ_cons, List.take_zero, List.drop_succ_cons, List.drop_zero]
  change wpStill _ _ W.drew _ _ _
  repeat (first | still_step | (still_call K))
  refine wpStill_nil ?_
  change wpList _ _ _ _ _ W.drew
  obtain ⟨V, hV⟩ : ∃ V, V = W.drew := ⟨_, rfl⟩
  have HBV : Hid (Below g w V) := hide (by rw [hV]; exact HB.out.drew)
  rw [← hV] at HH ci cj fj ⊢
  clear K hV
  unfold uV at HH
  go_wp2
  go_end0
  exact ⟨rfl, by rw [c_xor]; exact HH.out, HBV.out.setCell (Nat.le_refl _) _⟩

set_option maxHeartbeats 1000000 in
theorem step03_any (w : World) (g : Nat) (s : Sip4) (h : StH w g 43 s) :
    Calls Try.prog 28 #[.pointer (some ⟨g, 0, none⟩), .int .i64 0, .int .i64 3, .int .i64 21] w fun e w' => e = .returned (.tuple #[]) ∧ StH w' g 43 (step03 21 s) ∧ Below g w w' := by
  have ci := h.c0
  have cj := h.c3
  have fi := h.fr 0
  have H : ∀ x, StH (w.setCell ⟨g, 0, none⟩ (uV x)).drew g 43 (⟨x, s.b, s.c, s.d⟩ : Sip4) := fun x => h.set 0 x rfl
  have HH := hide H
  have HS := hide h
  clear h H
  go_enter Try.func28, Try.ntmps28
  go_wp2
  go_still_tail 13, (by kernel_rfl)
  change wpList _ _ _ _ _ w.drew
  go_wp2_with fail
  rw [c_add]
  obtain ⟨S, hS⟩ : ∃ S, S = s.a + s.d := ⟨_, rfl⟩
  rw [← hS]
  have hW : StH (w.setCell ⟨g, 0, none⟩ (Value.int IntKind.u64 (S.toNat : Int))).drew g 43 _ := HH.out _
  have hB : Below g w (w.setCell ⟨g, 0, none⟩ (Value.int IntKind.u64 (S.toNat : Int))).drew := ((Below.refl g w).setCell (Nat.le_refl _) _).drew
  generalize (w.setCell ⟨g, 0, none⟩ (Value.int IntKind.u64 (S.toNat : Int))).drew = W at hW hB ⊢
  clear ci cj fi HH HS
  have ci : W.drew.cell? ⟨g, 0, none⟩ = some (.int .u64 (S.toNat : Int)) := hW.c0
  have cj : W.drew.cell? ⟨g, 3, none⟩ = some (.int .u64 (s.d.toNat : Int)) := hW.c3
  have fj : W.drew.frozen? ⟨g, 3, none⟩ = false := hW.fr 3
  have H : StH (W.drew.setCell ⟨g, 3, none⟩ (uV (rotB 21 s.d ^^^ S))) g 43 (step03 21 s) := StH.set (w := W.drew) hW 3 _ (by rw [hS]; rfl)
  have K : Calls Try.prog 29 #[.int .u64 (s.d.toNat : Int), .int .i64 21] W.drew fun e w'' => e = .returned (.int .u64 ((rotB 21 s.d).toNat : Int)) ∧ w'' = W.drew := (rotl_any s.d 21 (by unfold Turn5; simp) W.drew).mono fun _ _ h => ⟨h.1, h.2.symm⟩
  have HH := hide H
  have HB := hide hB
  clear H hW hB hS
  refine wp_region_still_tail 17 (by kernel_rfl) (by kernel_rfl) ?_
  simp only [List.take_succ_cons, List.take_zero, List.drop_succ_cons, List.drop_zero]
  change wpStill _ _ W.drew _ _ _
  repeat (first | still_step | (still_call K))
  refine wpStill_nil ?_
  change wpList _ _ _ _ _ W.drew
  obtain ⟨V, hV⟩ : ∃ V, V = W.drew := ⟨_, rfl⟩
  have HBV : Hid (Below g w V) := hide (by rw [hV]; exact HB.out.drew)
  rw [← hV] at HH ci cj fj ⊢
  clear K hV
  unfold uV at HH
  go_wp2
  go_end0
  exact ⟨rfl, by rw [c_xor]; exact HH.out, HBV.out.setCell (Nat.le_refl _) _⟩

set_option maxHeartbeats 1000000 in
theorem step21_any (w : World) (g : Nat) (s : Sip4) (h : StH w g 43 s) :
    Calls Try.prog 28 #[.pointer (some ⟨g, 0, none⟩), .int .i64 2, .int .i64 1, .int .i64 17] w fun e w' => e = .returned (.tuple #[]) ∧ StH w' g 43 (step21 17 s) ∧ Below g w w' := by
  have ci := h.c2
  have cj := h.c1
  have fi := h.fr 2
  have H : ∀ x, StH (w.setCell ⟨g, 2, none⟩ (uV x)).drew g 43 (⟨s.a, s.b, x, s.d⟩ : Sip4) := fun x => h.set 2 x rfl
  have HH := hide H
  have HS := hide h
  clear h H
  go_enter Try.func28, Try.ntmps28
  go_wp2
  go_still_tail 13, (by kernel_rfl)
  change wpList _ _ _ _ _ w.drew
  go_wp2_with fail
  rw [c_add]
  obtain ⟨S, hS⟩ : ∃ S, S = s.c + s.b := ⟨_, rfl⟩
  rw [← hS]
  have hW : StH (w.setCell ⟨g, 2, none⟩ (Value.int IntKind.u64 (S.toNat : Int))).drew g 43 _ := HH.out _
  have hB : Below g w (w.setCell ⟨g, 2, none⟩ (Value.int IntKind.u64 (S.toNat : Int))).drew := ((Below.refl g w).setCell (Nat.le_refl _) _).drew
  generalize (w.setCell ⟨g, 2, none⟩ (Value.int IntKind.u64 (S.toNat : Int))).drew = W at hW hB ⊢
  clear ci cj fi HH HS
  have ci : W.drew.cell? ⟨g, 2, none⟩ = some (.int .u64 (S.toNat : Int)) := hW.c2
  have cj : W.drew.cell? ⟨g, 1, none⟩ = some (.int .u64 (s.b.toNat : Int)) := hW.c1
  have fj : W.drew.frozen? ⟨g, 1, none⟩ = false := hW.fr 1
  have H : StH (W.drew.setCell ⟨g, 1, none⟩ (uV (rotB 17 s.b ^^^ S))) g 43 (step21 17 s) := StH.set (w := W.drew) hW 1 _ (by rw [hS]; rfl)
  have K : Calls Try.prog 29 #[.int .u64 (s.b.toNat : Int), .int .i64 17] W.drew fun e w'' => e = .returned (.int .u64 ((rotB 17 s.b).toNat : Int)) ∧ w'' = W.drew := (rotl_any s.b 17 (by unfold Turn5; simp) W.drew).mono fun _ _ h => ⟨h.1, h.2.symm⟩
  have HH := hide H
  have HB := hide hB
  clear H hW hB hS
  refine wp_region_still_tail 17 (by kernel_rfl) (by kernel_rfl) ?_
  simp only [List.take_succ_cons, List.take_zero, List.drop_succ_cons, List.drop_zero]
  change wpStill _ _ W.drew _ _ _
  repeat (first | still_step | (still_call K))
  refine wpStill_nil ?_
  change wpList _ _ _ _ _ W.drew
  obtain ⟨V, hV⟩ : ∃ V, V = W.drew := ⟨_, rfl⟩
  have HBV : Hid (Below g w V) := hide (by rw [hV]; exact HB.out.drew)
  rw [← hV] at HH ci cj fj ⊢
  clear K hV
  unfold uV at HH
  go_wp2
  go_end0
  exact ⟨rfl, by rw [c_xor]; exact HH.out, HBV.out.setCell (Nat.le_refl _) _⟩

end Go.Proofs.Ytlcgciafclfoeaa
