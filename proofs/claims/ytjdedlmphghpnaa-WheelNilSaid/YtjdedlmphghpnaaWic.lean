/-
  The walk of the statement WheelNil.
-/
import Derived.Test.YtjdedlmphghpnaaWib
namespace Go.Proofs.Ytjdedlmphghpnaa
open Go.RowKit
set_option maxRecDepth 100000
set_option linter.unusedVariables false
set_option linter.unusedSimpArgs false
attribute [local go_sem ↓] exec_span exec_put exec_build heap_alloc_new heap_old
attribute [local go_sem] spanQ_ptr spanC_some heap_of_drew heap_of_drewN putAt_ptr putOk_ptr oldOk_some World.setRow_alloc_new rs_Due built_due built_due0 rs_rDue built_rdue

set_option maxHeartbeats 8000000 in
theorem wheelNil_any (w : World) (id at_ : Int) : Calls Try.prog 7 #[.int .i64 id, .int .i64 at_] w fun e w' => e = .returned (.bool true) ∧ Below w.heap.size w w' := by
  have hao : allOne #[.int .i64 0, .int .i64 0] = true := by simp [allOne, Value.oneCell']
  have HB := hide (Below.refl w.heap.size w)
  go_enter Try.func7, Try.ntmps7
  go_upto_region 4 with (first
    | (go_at_call 16; (with_reducible refine (advN_any _ _).mono ?_); rintro e w2 ⟨rfl, rfl⟩; dsimp only)
    | (go_at_call 20; (with_reducible refine (nextN_any _).mono ?_); rintro e w2 ⟨rfl, hb⟩; have HB2 := hide hb; clear hb; dsimp only [retF]) | fail)
  obtain ⟨w3, hw3, r3, z3, b3⟩ := alloc_nm w2 (.cells #[.int .i64 0, .int .i64 0] 43)
  rw [hw3]
  have c0 : w3.cell? ⟨w2.heap.size, 0, none⟩ = some (.int .i64 0) := (cell_of_row w3 _ 0 _ _ (0, 0) r3).trans rfl
  have c1 : w3.cell? ⟨w2.heap.size, 1, none⟩ = some (.int .i64 0) := (cell_of_row w3 _ 1 _ _ (0, 0) r3).trans rfl
  have HB3 := hide (HB2.out.trans (b3.mono HB2.out.size))
  have KK := hide (known18_any w3)
  clear hw3 r3 z3 b3 HB2
  go_wp2_with (first
    | (go_at_call 12; (with_reducible refine (setN_any _ _ _).mono ?_); rintro e w4 ⟨rfl, rfl⟩; dsimp only)
    | (go_at_call 14; (with_reducible refine (dropN_any _ _).mono ?_); rintro e w4 ⟨rfl, rfl⟩; dsimp only)
    | (go_at_call 23; (with_reducible refine (atN_any _ _).mono ?_); rintro e w4 ⟨rfl, rfl⟩; dsimp only)
    | (go_at_call 21; (with_reducible refine (lenWN_any _).mono ?_); rintro e w4 ⟨rfl, rfl⟩; dsimp only)
    | (go_at_call 22; (with_reducible refine (nowN_any _).mono ?_); rintro e w4 ⟨rfl, rfl⟩; dsimp only)
    | (go_at_call 11; (with_reducible refine KK.out.mono ?_); rintro e w5 ⟨rfl, hb⟩; have HB5 := hide (HB3.out.trans (hb.mono HB3.out.size)); clear hb; dsimp only) | fail)
  go_ret
  exact ⟨rfl, HB5.out⟩
end Go.Proofs.Ytjdedlmphghpnaa
