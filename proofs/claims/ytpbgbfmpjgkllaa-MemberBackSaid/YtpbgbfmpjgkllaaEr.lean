/-
  The walks of a Reader's methods behind an error, and where there is no Reader.
-/
import Derived.Test.YtpbgbfmpjgkllaaSk
namespace Go.Proofs.Ytpbgbfmpjgkllaa
open Go.RowKit
set_option maxRecDepth 100000
set_option linter.unusedVariables false

set_option maxHeartbeats 1000000 in
theorem err_nil (w : World) : Calls Try.prog 65 #[.pointer none] w fun e w' => e = .returned (.int .i64 2) ∧ w = w' := by
  go_enter Try.func65, Try.ntmps65
  go_wp2
  go_ret
  exact ⟨rfl, rfl⟩
set_option maxHeartbeats 1000000 in
theorem left_nil (w : World) : Calls Try.prog 66 #[.pointer none] w fun e w' => e = .returned (.int .i64 0) ∧ w = w' := by
  go_enter Try.func66, Try.ntmps66
  go_wp2
  go_ret
  exact ⟨rfl, rfl⟩
set_option maxHeartbeats 1000000 in
theorem end_nil (w : World) : Calls Try.prog 52 #[.pointer none] w fun e w' => e = .returned (.int .i64 2) ∧ w = w' := by
  go_enter Try.func52, Try.ntmps52
  go_wp2_with fail
  refine (err_nil _).mono ?_
  rintro e w1 ⟨rfl, rfl⟩
  go_wp2
  go_ret
  exact ⟨rfl, rfl⟩
set_option maxHeartbeats 1000000 in
theorem attempt_err (w : World) (P : Option Addr) (er : Int) (F : Value) (he : er ≠ 0) (hE : ∀ W, Below w.heap.size w W → Calls Try.prog 65 #[.pointer P] W fun e w' => e = .returned (.int .i64 er) ∧ W = w') :
    Calls Try.prog 62 #[.pointer P, F] w fun e w' => e = .returned (.tuple #[]) ∧ Below w.heap.size w w' := by
  have hei : (er != 0) = true := by simpa using he
  have hbw : Below w.heap.size w (w.alloc (.cells #[.pointer P] 99)) := (Below.refl _ _).alloc (Nat.le_refl _) _
  have HBW := hide hbw
  have HE := hide (hE _ hbw)
  clear hE hbw
  go_enter_defers Try.func62, Try.ntmps62
  go_wp2_with fail
  refine HE.out.mono ?_
  rintro e w1 ⟨rfl, rfl⟩
  go_wp2
  exact ⟨.tuple #[], by simp [results, Try.results62], rfl, HBW.out⟩

/-- a Reader that has an error, or is none: in whatever world of new blocks its Err answers er. -/
def ErrIs (w : World) (P : Option Addr) (er : Int) : Prop := er ≠ 0 ∧ ∀ W, Below w.heap.size w W → Calls Try.prog 65 #[.pointer P] W fun e w' => e = .returned (.int .i64 er) ∧ W = w'
theorem ErrIs.rd {w : World} {g : Nat} {A : Option Addr} {n c k : Nat} {er : Int} (h : Rd w g A n c k er) (he : er ≠ 0) : ErrIs w (some ⟨g, 0, none⟩) er := ⟨he, fun W hb => err_any W g A n c k er (h.kept (hb.block g h.lt))⟩
theorem ErrIs.nil (w : World) : ErrIs w none 2 := ⟨by decide, fun W _ => err_nil W⟩
theorem ErrIs.attempt {w W : World} {P : Option Addr} {er : Int} (h : ErrIs w P er) (F : Value) (hb : Below w.heap.size w W) : Calls Try.prog 62 #[.pointer P, F] W fun e w' => e = .returned (.tuple #[]) ∧ Below W.heap.size W w' :=
  attempt_err W P er F h.1 (fun W' hb' => h.2 W' (hb.trans (hb'.mono hb.size)))

set_option maxHeartbeats 1000000 in
theorem rnum_err (w : World) (P : Option Addr) (er m : Int) (h : ErrIs w P er) :
    Calls Try.prog 51 #[.pointer P, .int .i64 m] w fun e w' => e = .returned (.int .u64 0) ∧ Below w.heap.size w w' := by
  have hmf : ∀ (fn : Fn) (first cap : Array Value) (w : World), (Instr.makeFunc fn first cap).run Try.prog w = .ok (.func fn first cap) w := fun _ _ _ _ => rfl
  obtain ⟨W, hW, hbW, hzW, v0, v1, v2⟩ := three_vars w (.pointer P) (.int .i64 m) (.int .u64 0) 99 3 90
  have HAT := hide (fun F => h.attempt F hbW)
  have hcr : W.cell? ⟨w.heap.size, 0, none⟩ = some (.pointer P) := one_cell v0
  have HBW := hide hbW
  have HZ := hide hzW
  clear h hcr
  go_enter Try.func51, Try.ntmps51
  go_wp2_with fail
  rw [← hW]
  clear hW
  refine (HAT.out _).mono ?_
  rintro e w1 ⟨rfl, hb1⟩
  have HB := hide (HBW.out.trans (hb1.mono HBW.out.size))
  have hv2 := (hb1.block (w.heap.size + 2) (by omega)).trans v2
  have cv : w1.cell? ⟨w.heap.size + 1 + 1, 0, none⟩ = some (.int .u64 0) := one_cell hv2
  clear hb1
  go_wp2
  go_ret
  exact ⟨rfl, HB.out⟩

set_option maxHeartbeats 1000000 in
theorem endq_any (w : World) (g : Nat) (A : Option Addr) (n c k : Nat) (er : Int) (h : Rr w g A n c k er) (hn : n ≤ 140737488420864) (hk : k ≤ n) :
    Calls Try.prog 56 #[.pointer (some ⟨g, 0, none⟩)] w fun e w' => e = .returned (.int .i64 (endS n k er)) ∧ ∃ q, w' = w.drewN q := by
  have d0 := h.c0
  have d1 := h.c1
  have d2 := h.c2
  have HH := hide h
  by_cases he : er = 0
  · subst he
    by_cases hlt : k < n
    · have hs : endS n k 0 = 11 := by simp [endS, hlt]
      rw [hs]
      have hg : (k : Int) < (n : Int) := by omega
      go_enter Try.func56, Try.ntmps56
      go_wp2
      go_quiet (fail)
      go_wp2
      go_ret
      exact ⟨rfl, nq, rfl⟩
    · have hs : endS n k 0 = 0 := by simp [endS, hlt]
      rw [hs]
      have hg : ¬ (k : Int) < (n : Int) := by omega
      go_enter Try.func56, Try.ntmps56
      go_wp2
      go_quiet (fail)
      have e2 := (HH.out.drewN nq).c2
      go_wp2
      go_ret
      exact ⟨rfl, nq, rfl⟩
  · have hei : (er == 0) = false := by simpa using he
    have hs : endS n k er = er := by simp [endS, he]
    rw [hs]
    go_enter Try.func56, Try.ntmps56
    go_wp2
    go_quiet (fail)
    have e2 := (HH.out.drewN nq).c2
    go_wp2
    go_ret
    exact ⟨rfl, nq, rfl⟩
end Go.Proofs.Ytpbgbfmpjgkllaa
