/-
  The walk of the fixed calls of the cursor's statements: they answer true.
-/
import Derived.Test.YtgbmamahkpkdfaaRunW
namespace Go.Proofs.Ytgbmamahkpkdfaa
open Go.RowKit

def fixedOps : List (Int × Int) := [(0, 2), (2, 1), (3, 1)]
theorem fixed_one : runS [1, 2, 3, 0] fixedOps 0 = ([(258, []), (0, []), (0, [])], 4, 0) := by decide +kernel
theorem fixed_two : runS [1] fixedOps 0 = ([], 0, 10) := by decide +kernel

theorem run_fixed1 (w : World) : Calls Try.prog 16 #[.slice (some ⟨w.heap.size + 1, 0, none⟩) 4 4, .slice (some ⟨w.heap.size, 0, none⟩) 3 3]
    ((w.alloc (.cells #[.int .i64 0, .int .i64 2, .int .i64 2, .int .i64 1, .int .i64 3, .int .i64 1] 109)).alloc (.cells #[.int .u8 1, .int .u8 2, .int .u8 3, .int .u8 0] 5)) fun e w' =>
    ∃ gg c, e = .returned (.tuple #[.slice (some ⟨gg, 0, none⟩) 3 c, .int .i64 4, .int .i64 0]) ∧ w'.cell? ⟨gg, 0, none⟩ = some (.int .u64 258) ∧ gg < w'.heap.size ∧ Below w.heap.size w w' ∧ Ops w' w'.heap.size (some ⟨w.heap.size, 0, none⟩) fixedOps := by
  have ho := Ops.lit w fixedOps #[.int .i64 0, .int .i64 2, .int .i64 2, .int .i64 1, .int .i64 3, .int .i64 1] 109 (0, 0) rfl
  have hz : (w.alloc (.cells #[.int .i64 0, .int .i64 2, .int .i64 2, .int .i64 1, .int .i64 3, .int .i64 1] 109)).heap.size = w.heap.size + 1 := by simp
  have hbl : Below w.heap.size w (w.alloc (.cells #[.int .i64 0, .int .i64 2, .int .i64 2, .int .i64 1, .int .i64 3, .int .i64 1] 109)) := (Below.refl _ _).alloc (Nat.le_refl _) _
  generalize w.alloc (.cells #[.int .i64 0, .int .i64 2, .int .i64 2, .int .i64 1, .int .i64 3, .int .i64 1] 109) = w1 at ho hz hbl ⊢
  have hy := Byt.lit w1 [1, 2, 3, 0] #[.int .u8 1, .int .u8 2, .int .u8 3, .int .u8 0] 5 (0, 0) rfl
  have hb2 : Below w1.heap.size w1 (w1.alloc (.cells #[.int .u8 1, .int .u8 2, .int .u8 3, .int .u8 0] 5)) := (Below.refl _ _).alloc (Nat.le_refl _) _
  have ho2 : Ops (w1.alloc (.cells #[.int .u8 1, .int .u8 2, .int .u8 3, .int .u8 0] 5)) (w1.heap.size + 1) (some ⟨w.heap.size, 0, none⟩) fixedOps := ho.more (by omega) (hb2.mono (by omega))
  have hz2 : (w1.alloc (.cells #[.int .u8 1, .int .u8 2, .int .u8 3, .int .u8 0] 5)).heap.size = w1.heap.size + 1 := by simp
  rw [hz] at hy ho2 hz2
  generalize w1.alloc (.cells #[.int .u8 1, .int .u8 2, .int .u8 3, .int .u8 0] 5) = w2 at hy ho2 hz2 hb2 ⊢
  have hrun := run_any w2 (some ⟨w.heap.size + 1, 0, none⟩) (some ⟨w.heap.size, 0, none⟩) [1, 2, 3, 0] 4 3 fixedOps (by decide) (by show 4 ≤ _; omega) (hy.more (by omega)) (ho2.keep (by omega) (fun _ _ => rfl)) (by show 3 ≤ _; omega)
  rw [fixed_one] at hrun
  refine hrun.mono fun e w' ⟨vv, items, he, hown, hm, hb⟩ => ?_
  have hil : items.length = 3 := by have := congrArg List.length hm; simpa using this
  obtain ⟨Av, cv, rfl, _, hcells⟩ := hown.shape
  obtain ⟨gg, rfl, _, hgl, hc⟩ := hcells (by omega)
  have hN : items[0].N = 258 := by
    have := congrArg (fun x => x[0]?) hm
    simp [List.getElem?_eq_getElem (show 0 < items.length by omega)] at this
    exact this.1
  refine ⟨gg, cv, by rw [he, hil]; rfl, ?_, hgl, hbl.trans ((hb2.mono (by omega)).trans (hb.mono (by omega))), ho2.keep (by have := hb.size; omega) (fun p hp => hb.cell (by omega))⟩
  have := (hc 0 (by omega)).1
  rw [hN] at this
  exact this

theorem run_fixed2 (w : World) (A : Option Addr) (ho : Ops w w.heap.size A fixedOps) : Calls Try.prog 16 #[.slice (some ⟨w.heap.size, 0, none⟩) 1 1, .slice A 3 3] (w.alloc (.cells #[.int .u8 1] 5)) fun e w' =>
    ∃ A' c, e = .returned (.tuple #[.slice A' 0 c, .int .i64 0, .int .i64 10]) ∧ Below w.heap.size w w' := by
  have hy := Byt.lit w [1] #[.int .u8 1] 5 (0, 0) rfl
  have hb2 : Below w.heap.size w (w.alloc (.cells #[.int .u8 1] 5)) := (Below.refl _ _).alloc (Nat.le_refl _) _
  have ho2 : Ops (w.alloc (.cells #[.int .u8 1] 5)) (w.heap.size + 1) A fixedOps := ho.more (by omega) hb2
  have hz2 : (w.alloc (.cells #[.int .u8 1] 5)).heap.size = w.heap.size + 1 := by simp
  generalize w.alloc (.cells #[.int .u8 1] 5) = w2 at hy ho2 hz2 hb2 ⊢
  have hrun := run_any w2 (some ⟨w.heap.size, 0, none⟩) A [1] 1 3 fixedOps (by decide) (by show 1 ≤ _; omega) (hy.more (by omega)) (ho2.keep (by omega) (fun _ _ => rfl)) (by show 3 ≤ _; omega)
  rw [fixed_two] at hrun
  refine hrun.mono fun e w' ⟨vv, items, he, hown, hm, hb⟩ => ?_
  have hil : items.length = 0 := by have := congrArg List.length hm; simpa using this
  obtain ⟨Av, cv, rfl, _, _⟩ := hown.shape
  exact ⟨Av, cv, by rw [he, hil]; rfl, hb2.trans (hb.mono (by omega))⟩

set_option maxHeartbeats 2000000 in
theorem knownC_any (w : World) : Calls Try.prog 23 #[] w fun e w' => e = .returned (.bool true) ∧ Below w.heap.size w w' := by
  have R1 := hide (run_fixed1 w)
  go_enter Try.func23, Try.ntmps23
  go_wp2_with fail
  refine R1.out.mono ?_
  rintro e w1 ⟨gg, c, rfl, hcell, hgl, hb1, ho⟩
  have R2 := hide (run_fixed2 w1 _ ho)
  clear ho
  go_wp2_with fail
  refine R2.out.mono ?_
  rintro e w2 ⟨A', c', rfl, hb2⟩
  have hc2 : w2.cell? ⟨gg, 0, none⟩ = some (.int .u64 258) := (hb2.cell (by exact hgl)).trans hcell
  have hb := hb1.trans (hb2.mono hb1.size)
  clear hcell hb1 hb2
  go_wp2
  go_ret
  exact ⟨rfl, hb⟩
end Go.Proofs.Ytgbmamahkpkdfaa
