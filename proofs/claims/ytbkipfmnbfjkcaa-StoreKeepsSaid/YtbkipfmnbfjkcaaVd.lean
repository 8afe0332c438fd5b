/-
  Flows: one behind a packet.
-/
import Derived.Test.YtbkipfmnbfjkcaaVc
namespace Go.Proofs.Ytbkipfmnbfjkcaa
open Go.RowKit
set_option maxRecDepth 100000
set_option linter.unusedVariables false
set_option linter.unusedSimpArgs false
attribute [local go_sem ↓] exec_span exec_put exec_build heap_alloc_new heap_old
attribute [local go_sem] spanQ_ptr spanC_some heap_of_drew heap_of_drewN putAt_ptr putOk_ptr oldOk_some World.setRow_alloc_new rs_Flow rs_RFlow

theorem two_newV (w : World) (X Y : Array Value) (t t' : TypeId) : ∃ W, (w.alloc (.cells X t)).alloc (.cells Y t') = W ∧ W.heap[w.heap.size]? = some (.cells X t (0, 0)) ∧ W.heap[w.heap.size + 1]? = some (.cells Y t' (0, 0)) ∧ W.heap.size = w.heap.size + 2 ∧ Below w.heap.size w W := by
  refine ⟨_, rfl, ?_, ?_, by simp, ((Below.refl _ _).alloc (Nat.le_refl _) _).alloc (by simp) _⟩
  · rw [heap_alloc_old _ _ (by simp)]; exact heap_alloc_new _ _
  · have := heap_alloc_new (w.alloc (.cells X t)) (.cells Y t')
    simpa using this
theorem turn_out {s fl : Int} (h2 : turnF s fl ≠ 2) (h3 : turnF s fl ≠ 3) : turnF s fl = s := by
  unfold turnF turnB at *
  split at h2 <;> simp_all
theorem below_setV {B b j : Nat} {w0 w : World} (h : Below B w0 w) (hb : B ≤ b) (v : Value) : Below B w0 (w.setCell ⟨b, j, none⟩ v) := h.setCell hb v
theorem cells3 (p s l : Int) : allOne #[Value.int .i64 p, .int .i64 s, .int .i64 l] = true := by simp [allOne, Value.oneCell']
theorem set1 (p s l z : Int) : (#[Value.int .i64 p, .int .i64 s, .int .i64 l] : Array Value).setIfInBounds 1 (.int .i64 z) = #[Value.int .i64 p, .int .i64 z, .int .i64 l] := rfl
theorem set2 (p s l z : Int) : (#[Value.int .i64 p, .int .i64 s, .int .i64 l] : Array Value).setIfInBounds 2 (.int .i64 z) = #[Value.int .i64 p, .int .i64 s, .int .i64 z] := rfl
theorem info_flow : (Try.prog.info? 24).map (·.size) = some 3 := by kernel_rfl
theorem info_rflow : (Try.prog.info? 23).map (·.size) = some 3 := by kernel_rfl
set_option maxHeartbeats 4000000 in
theorem behindF_any (w : World) (f : Flw) (fl now : Int) (h0 : 0 ≤ fl) (h1 : fl ≤ 255) : Calls Try.prog 41 #[flV f, .int .i64 fl, .int .i64 now] w (RetV w (flV ⟨f.p, turnF f.s fl, now⟩)) := by
  obtain ⟨p, s, l⟩ := f
  obtain ⟨W, hW, r1, r2, hz, hb⟩ := two_newV w #[.int .i64 p, .int .i64 s, .int .i64 l] #[.int .i64 0, .int .i64 0, .int .i64 0] 24 24
  have KT := hide (turned_any W s fl h0 h1)
  have HO := hide (fun h2 h3 => turn_out (s := s) (fl := fl) h2 h3)
  obtain ⟨S, hS⟩ : ∃ S, S = turnF s fl := ⟨_, rfl⟩
  rw [← hS] at KT HO
  dsimp only
  rw [← hS]
  clear hS h0 h1
  unfold flV flA
  have k1 : W.cell? ⟨w.heap.size, 1, none⟩ = some (.int .i64 s) := (cell_of_row W _ 1 _ _ (0, 0) r1).trans rfl
  have HW : Hid (∀ w2, Below W.heap.size W w2 → w2.heap[w.heap.size]? = some (.cells #[.int .i64 p, .int .i64 s, .int .i64 l] 24 (0, 0)) ∧ w2.heap[w.heap.size + 1]? = some (.cells #[.int .i64 0, .int .i64 0, .int .i64 0] 24 (0, 0)) ∧ Below w.heap.size w w2) := hide fun w2 hb2 => ⟨(hb2.block _ (by omega)).trans r1, (hb2.block _ (by omega)).trans r2, hb.trans (hb2.mono (by omega))⟩
  have C3 := cells3
  clear hb hz r1 r2
  go_enter Try.func41, Try.ntmps41
  by_cases hE : S = 2 ∨ S = 3
  · have HE := hide hE
    clear hE
    go_upto_region 2 with (first | (go_at_call 61; (with_reducible refine KT.out.mono ?_); rintro e w2 ⟨rfl, hb2⟩; have HB2 := hide (HW.out w2 hb2); clear hb2; dsimp only) | fail)
    have b1 := HB2.out.1
    have b2 := HB2.out.2.1
    have c1 : w2.cell? ⟨w.heap.size, 1, none⟩ = some (.int .i64 s) := (cell_of_row w2 _ 1 _ _ (0, 0) b1).trans rfl
    have f1 : w2.frozen? ⟨w.heap.size, 1, none⟩ = false := frozen_of_row w2 _ 1 _ _ b1
    have b3 := heap_setCell_same w2 w.heap.size 1 _ _ (.int .i64 S) b1
    rw [set1] at b3
    have b3' := (heap_setCell_other w2 ⟨w.heap.size, 1, none⟩ (w.heap.size + 1) (.int .i64 S) (by simp)).trans b2
    obtain ⟨W3, hW3⟩ : ∃ W3, w2.setCell ⟨w.heap.size, 1, none⟩ (.int .i64 S) = W3 := ⟨_, rfl⟩
    have HB3 : Hid (Below w.heap.size w W3) := hide (by rw [← hW3]; exact below_setV HB2.out.2.2 (Nat.le_refl _) _)
    rw [hW3] at b3 b3'
    have c2 : W3.cell? ⟨w.heap.size, 2, none⟩ = some (.int .i64 l) := (cell_of_row W3 _ 2 _ _ (0, 0) b3).trans rfl
    have f2 : W3.frozen? ⟨w.heap.size, 2, none⟩ = false := frozen_of_row W3 _ 2 _ _ b3
    have b4 := heap_setCell_same W3 w.heap.size 2 _ _ (.int .i64 now) b3
    rw [set2] at b4
    have b4' := (heap_setCell_other W3 ⟨w.heap.size, 2, none⟩ (w.heap.size + 1) (.int .i64 now) (by simp)).trans b3'
    obtain ⟨W4, hW4⟩ : ∃ W4, W3.setCell ⟨w.heap.size, 2, none⟩ (.int .i64 now) = W4 := ⟨_, rfl⟩
    have HB4 : Hid (Below w.heap.size w W4) := hide (by rw [← hW4]; exact below_setV HB3.out (Nat.le_refl _) _)
    rw [hW4] at b4 b4'
    have HR4 := hide b4'
    clear b1 b2 b3 b3' hW
    rcases HE.out with rfl | rfl
    all_goals
      clear HE
      go_wp2
      refine bodyPost_ret (results_cell_row (fn := Try.f41) Try.results41 _ _ (w.heap.size + 1) 24 _ (0, 0) _ rfl (setRow_heap _ _ _ _ _ _ HR4.out) Try.underlying24 rfl info_flow) rfl ?_
      exact ⟨rfl, below_setRow HB4.out (Nat.le_succ _) _⟩
  · have hS2 : S ≠ 2 := fun h => hE (.inl h)
    have hS3 : S ≠ 3 := fun h => hE (.inr h)
    have hSs : S = s := HO.out hS2 hS3
    subst hSs
    clear hE HO
    go_upto_region 2 with (first | (go_at_call 61; (with_reducible refine KT.out.mono ?_); rintro e w2 ⟨rfl, hb2⟩; have HB2 := hide (HW.out w2 hb2); clear hb2; dsimp only) | fail)
    have b1 := HB2.out.1
    have b2 := HB2.out.2.1
    have c2 : w2.cell? ⟨w.heap.size, 2, none⟩ = some (.int .i64 l) := (cell_of_row w2 _ 2 _ _ (0, 0) b1).trans rfl
    have f2 : w2.frozen? ⟨w.heap.size, 2, none⟩ = false := frozen_of_row w2 _ 2 _ _ b1
    have b4 := heap_setCell_same w2 w.heap.size 2 _ _ (.int .i64 now) b1
    rw [set2] at b4
    have b4' := (heap_setCell_other w2 ⟨w.heap.size, 2, none⟩ (w.heap.size + 1) (.int .i64 now) (by simp)).trans b2
    obtain ⟨W4, hW4⟩ : ∃ W4, w2.setCell ⟨w.heap.size, 2, none⟩ (.int .i64 now) = W4 := ⟨_, rfl⟩
    have HB4 : Hid (Below w.heap.size w W4) := hide (by rw [← hW4]; exact below_setV HB2.out.2.2 (Nat.le_refl _) _)
    rw [hW4] at b4 b4'
    have HR4 := hide b4'
    clear b1 b2 hW
    go_wp2
    refine bodyPost_ret (results_cell_row (fn := Try.f41) Try.results41 _ _ (w.heap.size + 1) 24 _ (0, 0) _ rfl (setRow_heap _ _ _ _ _ _ HR4.out) Try.underlying24 rfl info_flow) rfl ?_
    exact ⟨rfl, below_setRow HB4.out (Nat.le_succ _) _⟩
end Go.Proofs.Ytbkipfmnbfjkcaa
