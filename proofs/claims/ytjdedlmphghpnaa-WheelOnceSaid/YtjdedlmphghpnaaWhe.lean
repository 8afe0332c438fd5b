/-
  Things that are due, in their order: the order's function; a place looked up in a row that rises; a copy of a row.
-/
import Derived.Test.YtjdedlmphghpnaaWhd
import Derived.Test.YtjdedlmphghpnaaGz
import Derived.Test.YtjdedlmphghpnaaMp
namespace Go.Proofs.Ytjdedlmphghpnaa
open Go.RowKit Go.Sort
set_option maxRecDepth 100000
set_option linter.unusedVariables false
set_option linter.unusedSimpArgs false

theorem compareL_any (w : World) (a b : Int) :
    Calls Try.prog 67 #[.int .i64 a, .int .i64 b] w fun e w' => e = .returned (.int .i64 (cmpI a b)) ∧ w' = w := by
  unfold cmpI
  rcases Int.lt_trichotomy a b with h | h | h
  · rw [if_pos h]
    go_enter Try.func67, Try.ntmps67
    go_wp2
    go_ret
    exact ⟨rfl, rfl⟩
  · subst h
    rw [if_neg (by omega), if_neg (by omega)]
    go_enter Try.func67, Try.ntmps67
    go_wp2
    go_ret
    exact ⟨rfl, rfl⟩
  · have h' : ¬ a < b := by omega
    rw [if_neg h', if_pos h]
    go_enter Try.func67, Try.ntmps67
    go_wp2
    go_ret
    exact ⟨rfl, rfl⟩
/-- a thing as its cells: its Id, its time. -/
def dueC (p : Int × Int) : List Value := [.int .i64 p.1, .int .i64 p.2]
def dueV (p : Int × Int) : Value := .agg (dueC p).toArray
/-- which of two is due first. -/
def cmpD (p q : Int × Int) : Int := if cmpI p.2 q.2 ≠ 0 then cmpI p.2 q.2 else cmpI p.1 q.1
set_option maxHeartbeats 2000000 in
theorem orderD_any (w : World) (p q : Int × Int) :
    Calls Try.prog 64 #[.agg #[.int .i64 p.1, .int .i64 p.2], .agg #[.int .i64 q.1, .int .i64 q.2]] w fun e w' => e = .returned (.int .i64 (cmpD p q)) ∧ Below w.heap.size w w' := by
  obtain ⟨i1, a1⟩ := p
  obtain ⟨i2, a2⟩ := q
  dsimp only
  obtain ⟨w1, hw1, r1, z1, b1⟩ := alloc_nm w (.cells #[.int .i64 i1, .int .i64 a1] 43)
  obtain ⟨w2, hw2, r2, z2, b2⟩ := alloc_nm w1 (.cells #[.int .i64 i2, .int .i64 a2] 43)
  have r1' : w2.heap[w.heap.size]? = _ := (b2.block _ (by omega)).trans r1
  have KC : Hid (∀ n x y, Calls Try.prog 67 #[.int .i64 x, .int .i64 y] (w2.drewN n) fun e w' => e = .returned (.int .i64 (cmpI x y)) ∧ ∃ m : Nat, w' = w2.drewN m) :=
    hide (fun n x y => (compareL_any (w2.drewN n) x y).mono fun e w' ⟨he, hw⟩ => ⟨he, n, hw⟩)
  have HE : Hid (cmpD (i1, a1) (i2, a2) = if cmpI a1 a2 ≠ 0 then cmpI a1 a2 else cmpI i1 i2) := hide rfl
  have HB : Hid (Below w.heap.size w w2) := hide (b1.trans (b2.mono (by omega)))
  rw [z1] at r2
  have c1 : ∀ n : Nat, (w2.drewN n).cell? ⟨w.heap.size, 1, none⟩ = some (.int .i64 a1) := fun n => (cell_of_row w2 w.heap.size 1 _ _ (0, 0) r1').trans rfl
  have c0 : ∀ n : Nat, (w2.drewN n).cell? ⟨w.heap.size, 0, none⟩ = some (.int .i64 i1) := fun n => (cell_of_row w2 w.heap.size 0 _ _ (0, 0) r1').trans rfl
  have d1 : ∀ n : Nat, (w2.drewN n).cell? ⟨w.heap.size + 1, 1, none⟩ = some (.int .i64 a2) := fun n => (cell_of_row w2 _ 1 _ _ (0, 0) r2).trans rfl
  have d0 : ∀ n : Nat, (w2.drewN n).cell? ⟨w.heap.size + 1, 0, none⟩ = some (.int .i64 i2) := fun n => (cell_of_row w2 _ 0 _ _ (0, 0) r2).trans rfl
  clear r1 r2 r1' b1 b2 z2
  go_enter Try.func64, Try.ntmps64
  go_upto_region 1 with (fail)
  refine wp_region_head_tail (fun w' => ∃ n : Nat, w' = w2.drewN n) ⟨1, rfl⟩ 10 (by kernel_rfl) (by kernel_rfl) ?_
  simp only [List.append_eq, List.cons_append, List.nil_append, List.take_succ_cons, List.take_zero, List.drop_succ_cons, List.drop_zero]
  repeat (go_big_quiet_step (first | (go_at_call 67; with_reducible exact KC.out _ _ _) | fail))
  refine wpQuiet_nil ?_
  intro _ hw'
  obtain ⟨n, hw''⟩ := hw'
  subst hw''
  have HB3 : Hid (Below w.heap.size w (w2.drewN n)) := hide ⟨HB.out.os, HB.out.tape, HB.out.output, HB.out.size, HB.out.block⟩
  clear c0 c1 d0 d1 KC HB hw1 hw2 z1
  obtain ⟨W, hW⟩ : ∃ W, W = w2.drewN n := ⟨_, rfl⟩
  rw [← hW] at HB3 ⊢
  clear hW
  obtain ⟨x, hx⟩ : ∃ x, x = cmpI a1 a2 := ⟨_, rfl⟩
  obtain ⟨y, hy⟩ : ∃ y, y = cmpI i1 i2 := ⟨_, rfl⟩
  rw [← hx, ← hy] at HE ⊢
  clear hx hy
  obtain ⟨W1, hw1, r1, z1, b1⟩ := alloc_nm W (.cells #[.int .i64 x, .int .i64 y] 3)
  have KO := orI_any W1 W.heap.size x y r1
  have HF : Hid (Below w.heap.size w W1) := hide (HB3.out.trans (b1.mono HB3.out.size))
  have HW1 := hide hw1
  rw [← HE.out] at KO
  clear hw1 r1 z1 b1 HE
  obtain ⟨R, hR⟩ : ∃ R, R = cmpD (i1, a1) (i2, a2) := ⟨_, rfl⟩
  rw [← hR] at KO
  have HR := hide hR
  clear hR
  go_wp2_with (go_at_call 66; rw [HW1.out]; refine KO.mono ?_; rintro e w' ⟨rfl, rfl⟩)
  go_ret
  exact ⟨ret_int HR.out, HF.out⟩
end Go.Proofs.Ytjdedlmphghpnaa
