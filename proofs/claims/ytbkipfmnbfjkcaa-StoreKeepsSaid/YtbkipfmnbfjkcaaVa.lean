/-
  Flows: what is asked of times, packets, protocols; when one can be, lives, ends. The mathematics: a flow is three numbers.
-/
import Derived.Test.YtbkipfmnbfjkcaaSp
import Derived.Test.YtbkipfmnbfjkcaaMp
namespace Go.Proofs.Ytbkipfmnbfjkcaa
open Go.RowKit
set_option maxRecDepth 100000
set_option linter.unusedVariables false
set_option linter.unusedSimpArgs false

structure Flw where
  p : Int
  s : Int
  l : Int
def flA (f : Flw) : Array Value := #[.int .i64 f.p, .int .i64 f.s, .int .i64 f.l]
def flV (f : Flw) : Value := .agg (flA f)
def fl0 : Flw := ⟨0, 0, 0⟩
def clockB (n : Int) : Bool := decide (0 ≤ n) && decide (n ≤ 1099511627776)
theorem clockB_iff {n : Int} : clockB n = true ↔ 0 ≤ n ∧ n ≤ 1099511627776 := by simp [clockB]
def pktB (p fl now : Int) : Bool := (p != 17 || fl == 0) && decide (0 ≤ fl) && decide (fl ≤ 255) && clockB now
theorem pktB_iff {p fl now : Int} : pktB p fl now = true ↔ (p = 17 → fl = 0) ∧ 0 ≤ fl ∧ fl ≤ 255 ∧ clockB now = true := by simp [pktB, and_assoc, ← Decidable.imp_iff_not_or]
def rightB (f : Flw) : Bool := ((f.p == 6 && decide (1 ≤ f.s) && decide (f.s ≤ 3)) || (f.p == 17 && f.s == 1)) && clockB f.l
theorem rightB_iff {f : Flw} : rightB f = true ↔ ((f.p = 6 ∧ 1 ≤ f.s ∧ f.s ≤ 3) ∨ (f.p = 17 ∧ f.s = 1)) ∧ clockB f.l = true := by simp [rightB, and_assoc]
def idleF (p : Int) : Int := if p = 17 then 20 else 60
def liveB (f : Flw) (now : Int) : Bool := rightB f && f.s != 3 && decide (f.l ≤ now) && decide (now ≤ f.l + idleF f.p)
theorem liveB_iff {f : Flw} {now : Int} : liveB f now = true ↔ rightB f = true ∧ f.s ≠ 3 ∧ f.l ≤ now ∧ now ≤ f.l + idleF f.p := by simp [liveB, and_assoc]
def endF (f : Flw) : Int := if rightB f = true ∧ f.s ≠ 3 then f.l + idleF f.p + 1 else 0
theorem ret_bool {a b : Bool} (h : a = b) : Ending.returned (.bool a) = .returned (.bool b) := by rw [h]

theorem rightTimeF_any (w : World) (n : Int) : Calls Try.prog 44 #[.int .i64 n] w fun e w' => e = .returned (.bool (clockB n)) ∧ w = w' := by
  go_enter Try.func44, Try.ntmps44
  go_wp2
  all_goals go_ret
  all_goals exact ⟨ret_bool (by rw [Bool.eq_iff_iff]; rw [clockB_iff]; simp only [decide_eq_true_eq, Bool.false_eq_true, false_iff]; omega), rfl⟩
theorem clockR_any (w : World) (n : Int) : Calls Try.prog 45 #[.int .i64 n] w fun e w' => e = .returned (.bool (clockB n)) ∧ w = w' := by
  go_enter Try.func45, Try.ntmps45
  go_wp2
  all_goals go_ret
  all_goals exact ⟨ret_bool (by rw [Bool.eq_iff_iff]; rw [clockB_iff]; simp only [decide_eq_true_eq, Bool.false_eq_true, false_iff]; omega), rfl⟩
theorem idleF_any (w : World) (p : Int) : Calls Try.prog 47 #[.int .i64 p] w fun e w' => e = .returned (.int .i64 (idleF p)) ∧ w = w' := by
  unfold idleF
  by_cases h : p = 17
  · subst h
    go_enter Try.func47, Try.ntmps47
    go_wp2
    go_ret
    exact ⟨rfl, rfl⟩
  · rw [if_neg h]
    go_enter Try.func47, Try.ntmps47
    go_wp2
    go_ret
    exact ⟨rfl, rfl⟩
theorem idleR_any (w : World) (p : Int) (h : p = 6 ∨ p = 17) : Calls Try.prog 46 #[.int .i64 p] w fun e w' => e = .returned (.int .i64 (idleF p)) ∧ w = w' := by
  rcases h with rfl | rfl
  all_goals
    go_enter Try.func46, Try.ntmps46
    go_wp2
    go_ret
    exact ⟨rfl, rfl⟩
theorem rightPacketF_any (w : World) (p fl now : Int) : Calls Try.prog 40 #[.int .i64 p, .int .i64 fl, .int .i64 now] w fun e w' => e = .returned (.bool (pktB p fl now)) ∧ w = w' := by
  go_enter Try.func40, Try.ntmps40
  go_wp2_with (first | (go_at_call 44; (with_reducible refine (rightTimeF_any _ _).mono ?_); rintro e w2 ⟨rfl, rfl⟩; dsimp only) | fail)
  all_goals go_ret
  all_goals exact ⟨ret_bool (by rw [Bool.eq_iff_iff]; rw [pktB_iff]; simp only [decide_eq_true_eq, Bool.false_eq_true, clockB_iff, false_iff]; (try simp only [bne_iff_ne, ne_eq, bne_eq_false_iff_eq] at *); omega), rfl⟩
theorem givenR_any (w : World) (p fl now : Int) (h : p = 6 ∨ p = 17) : Calls Try.prog 42 #[.int .i64 p, .int .i64 fl, .int .i64 now] w fun e w' => e = .returned (.bool (pktB p fl now)) ∧ w = w' := by
  go_enter Try.func42, Try.ntmps42
  go_wp2_with (first | (go_at_call 45; (with_reducible refine (clockR_any _ _).mono ?_); rintro e w2 ⟨rfl, rfl⟩; dsimp only) | fail)
  all_goals go_ret
  all_goals exact ⟨ret_bool (by rw [Bool.eq_iff_iff]; rw [pktB_iff]; simp only [decide_eq_true_eq, Bool.false_eq_true, clockB_iff, false_iff]; (try simp only [bne_iff_ne, ne_eq, bne_eq_false_iff_eq] at *); omega), rfl⟩
end Go.Proofs.Ytbkipfmnbfjkcaa
