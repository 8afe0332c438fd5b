import Derived.Test.YtjppmalcaogpiaaWi
namespace Go.Proofs.Ytjppmalcaogpiaa
open Go.RowKit
set_option maxRecDepth 100000
attribute [local go_sem] ord_none_lt ord_none_gt ord_none_eq ord_none_ne ord_lt_lt ord_lt_gt ord_lt_eq ord_lt_ne ord_gt_lt ord_gt_gt ord_gt_eq ord_gt_ne ord_eq_lt ord_eq_gt ord_eq_eq ord_eq_ne store_fl unary_negF
theorem FlS.lit (w : World) (l : List Nat) (cs : Array Value) (t : TypeId) (fr : Nat × Nat) (h64 : ∀ x ∈ l, x < 2 ^ 64) (hcs : cs = (l.map flV).toArray) : FlS (w.alloc (.cells cs t fr)) (w.heap.size + 1) (some ⟨w.heap.size, 0, none⟩) l :=
  ⟨h64, fun _ => ⟨_, 0, rfl, by omega, fun i hi => by
    have h := cell_of_row (w.alloc (.cells cs t fr)) w.heap.size i cs t fr (heap_alloc_new w _)
    rw [Nat.zero_add, h, hcs]; simp [flV, hi]⟩⟩
theorem InS.lit (w : World) (l : List Nat) (cs : Array Value) (t : TypeId) (fr : Nat × Nat) (hcs : cs = (l.map inV).toArray) : InS (w.alloc (.cells cs t fr)) (w.heap.size + 1) (some ⟨w.heap.size, 0, none⟩) l :=
  fun _ => ⟨_, 0, rfl, by omega, fun i hi => by
    have h := cell_of_row (w.alloc (.cells cs t fr)) w.heap.size i cs t fr (heap_alloc_new w _)
    rw [Nat.zero_add, h, hcs]; simp [inV, hi]⟩

theorem sameB_zero : sameB 0 0 = true := by decide
theorem lessB_minus : lessB 9223372036854775808 0 = true := by decide
theorem sameB_nan {a b : Nat} (ha : fI < fR a) (hb : fI < fR b) : sameB a b = true := by
  unfold sameB posF; rw [if_pos ha, if_pos hb]; exact decide_eq_true rfl
theorem clF_minus : clF 9223372036854775808 = 0 := by decide

set_option maxHeartbeats 2000000 in
theorem knownW_any (w : World) : Calls Try.prog 15 #[] w fun e w' => e = .returned (.bool true) ∧ Below w.heap.size w w' := by
  go_enter Try.func15, Try.ntmps15
  go_wp2_with fail
  refine (nan_law _).mono ?_
  rintro e w1 ⟨nb, rfl, h64, hnan, rfl⟩
  have HN := hide (And.intro h64 hnan)
  clear h64 hnan
  go_wp2_with fail
  have HF : Hid (FlS (w.drew.alloc (.cells #[.float .f64 4611686018427387904, .float .f64 4607182418800017408, .float .f64 0, .float .f64 nb] 22)) (w.heap.size + 1) (some ⟨w.heap.size, 0, none⟩) [4611686018427387904, 4607182418800017408, 0, nb]) :=
    hide (FlS.lit w.drew [4611686018427387904, 4607182418800017408, 0, nb] _ _ _ (by have := HN.out.1; simpa using this) rfl)
  refine (turns_any (some ⟨w.heap.size, 0, none⟩) 4 [4611686018427387904, 4607182418800017408, 0, nb] 6 (w.heap.size + 1) _ (by simp) (by omega) (by simp) (by exact HF.out)).mono ?_
  rintro e w2 ⟨v, rfl, ho, hb⟩
  rw [known_turns HN.out.2] at ho
  have HB : Hid (Below w.heap.size w w2) := by
    refine hide ?_
    have e1 : Below w.heap.size w (w.drew.alloc (.cells #[.float .f64 4611686018427387904, .float .f64 4607182418800017408, .float .f64 0, .float .f64 nb] 22)) := (Below.refl _ _).drew.alloc (by simp) _
    exact e1.trans (hb.mono (by simp))
  have HF2 : Hid (FlS w2 (w.heap.size + 1) (some ⟨w.heap.size, 0, none⟩) [4611686018427387904, 4607182418800017408, 0, nb]) := hide (HF.out.below hb (by simp))
  have HS2 : Hid (w.heap.size + 1 ≤ w2.heap.size) := by
    refine hide ?_
    have := hb.size; simp at this; omega
  obtain ⟨A, c, hv, hc, hin⟩ := ho.ins
  rw [show ([0, 0, 1, 0, 0, 1] : List Nat).length = 6 from rfl] at hv
  subst hv
  have HI := hide hin
  clear ho hb hc hin HF
  go_wp2_with fail
  refine (alike_any A (some ⟨w2.heap.size, 0, none⟩) c 6 [0, 0, 1, 0, 0, 1] [0, 0, 1, 0, 0, 1] (w2.heap.size + 1) _ (by simp) (by simp) (by exact (HI.out.below ((Below.refl _ _).alloc (Nat.le_refl _) _) (Nat.le_refl _)).more (by omega)) (by exact InS.lit w2 [0, 0, 1, 0, 0, 1] _ _ _ rfl)).mono ?_
  rintro e w3 ⟨rfl, k3, rfl⟩
  rw [show decide (([0, 0, 1, 0, 0, 1] : List Nat) = [0, 0, 1, 0, 0, 1]) = true from rfl]
  go_wp2_with fail
  refine (minus_law _).mono ?_
  rintro e w4 ⟨rfl, rfl⟩
  go_wp2_with fail
  refine (clean_at _ _ (by omega) clF_minus).mono ?_
  rintro e w5 ⟨rfl, B5⟩
  have HB5 : Hid (Below w.heap.size w w5) := by
    refine hide ?_
    have h2 := HB.out.size
    have e3 : Below w.heap.size w (w2.alloc (.cells #[.int .i64 0, .int .i64 0, .int .i64 1, .int .i64 0, .int .i64 0, .int .i64 1] 3)) := HB.out.alloc h2 _
    have e4 : Below w.heap.size w ((w2.alloc (.cells #[.int .i64 0, .int .i64 0, .int .i64 1, .int .i64 0, .int .i64 0, .int .i64 1] 3)).drewN k3) := ⟨e3.os, e3.tape, e3.output, e3.size, e3.block⟩
    exact e4.trans (B5.mono e4.size)
  have HS5 : Hid (w.heap.size + 1 ≤ w5.heap.size) := by
    refine hide ?_
    have h1 := HS2.out
    have h5 := B5.size
    simp at h5; omega
  have HF5 : Hid (FlS w5 (w.heap.size + 1) (some ⟨w.heap.size, 0, none⟩) [4611686018427387904, 4607182418800017408, 0, nb]) := by
    refine hide ?_
    have h1 := HS2.out
    have e3 : FlS (w2.alloc (.cells #[.int .i64 0, .int .i64 0, .int .i64 1, .int .i64 0, .int .i64 0, .int .i64 1] 3)) (w.heap.size + 1) (some ⟨w.heap.size, 0, none⟩) [4611686018427387904, 4607182418800017408, 0, nb] := HF2.out.alloc h1 _
    have e4 : FlS ((w2.alloc (.cells #[.int .i64 0, .int .i64 0, .int .i64 1, .int .i64 0, .int .i64 0, .int .i64 1] 3)).drewN k3) (w.heap.size + 1) (some ⟨w.heap.size, 0, none⟩) [4611686018427387904, 4607182418800017408, 0, nb] := e3
    exact e4.below B5 (by simp; omega)
  clear B5 HB HF2 HS2 HI
  go_wp2_with fail
  refine (refsame_any 0 0 _ (by omega) (by omega)).mono ?_
  rintro e w6 ⟨rfl, rfl⟩
  rw [sameB_zero]
  go_wp2_with fail
  refine (minus_law _).mono ?_
  rintro e w7 ⟨rfl, rfl⟩
  go_wp2_with fail
  refine (lessW_any _ 0 _ (by omega) (by omega)).mono ?_
  rintro e w8 ⟨rfl, rfl⟩
  rw [lessB_minus]
  go_wp2_with fail
  refine (nan_law _).mono ?_
  rintro e w9 ⟨nx, rfl, hx64, hxn, rfl⟩
  have HX := hide (And.intro hx64 hxn)
  clear hx64 hxn
  go_wp2_with fail
  refine (nan_law _).mono ?_
  rintro e w10 ⟨ny, rfl, hy64, hyn, rfl⟩
  have HY := hide (And.intro hy64 hyn)
  clear hy64 hyn
  go_wp2_with fail
  refine (sameW_any nx ny _ HX.out.1 HY.out.1).mono ?_
  rintro e w11 ⟨rfl, rfl⟩
  rw [sameB_nan HX.out.2 HY.out.2]
  go_wp2_with fail
  refine (best_any (some ⟨w.heap.size, 0, none⟩) 4 [4611686018427387904, 4607182418800017408, 0, nb] (w.heap.size + 1) _ (by simp) (by exact HS5.out) (by exact HF5.out)).mono ?_
  rintro e w12 ⟨rfl, B12⟩
  rw [known_best HN.out.2]
  have HB12 : Hid (Below w.heap.size w w12) := by
    refine hide ?_
    have e4 : Below w.heap.size w w5.drew.drew := HB5.out.drew.drew
    exact e4.trans (B12.mono e4.size)
  have ho : FloatKind.f64.format.order 4611686018427387904 4611686018427387904 = some .eq := by decide
  clear B12
  go_wp2
  go_ret
  exact ⟨rfl, HB12.out⟩
end Go.Proofs.Ytjppmalcaogpiaa
