/-
  What stands under a key is told once: told.
-/
import Derived.Test.YtajpibopknpmmaaGd
namespace Go.Proofs.Ytajpibopknpmmaa
open Go.RowKit
set_option maxRecDepth 100000
set_option linter.unusedVariables false
set_option linter.unusedSimpArgs false
attribute [local go_sem ↓] exec_span exec_put exec_build heap_alloc_new heap_old
attribute [local go_sem] spanQ_ptr spanC_some heap_of_drew heap_of_drewN putAt_ptr putOk_ptr oldOk_some World.setRow_alloc_new rs_wait rs_queue rs_Queue field0_wait field1_wait

theorem grown_alloc_put {w w1 : World} {r : Nat} {o : Obj} (h : Below w.heap.size w w1) : w.grownBy (w1.putObj r o) (some r) :=
  World.grownBy.trans (grown_ofB h (some r)) (grown_putObj w1 r o)
theorem grown_set_new {w w1 : World} {g i : Nat} {v : Value} (h : Below w.heap.size w w1) (hg : w.heap.size ≤ g) : Below w.heap.size w (w1.setCell ⟨g, i, none⟩ v) :=
  h.trans ⟨rfl, rfl, rfl, by simp [World.setCell], fun k hk => by
    unfold World.setCell
    simp only [Array.getElem?_modify]
    rw [if_neg (by omega)]⟩
set_option maxHeartbeats 4000000 in
theorem toldq_any (w : World) (q mb : Nat) (most : Int) (L : List (Int × Nw)) (S : Nat → Prop) (k : Int) (h : QueS w q mb most L S) (hm : ¬ S mb) (hk : hasQ L k = true) :
    Calls Try.prog 38 #[.pointer (some ⟨q, 0, none⟩), .int .i64 k] w fun e w' => e = .returned (.tuple #[]) ∧ QueS w' q mb most (toldQ k L) S ∧ w.grownBy w' (some mb) := by
  obtain ⟨x, hx⟩ := Option.isSome_iff_exists.1 hk
  have hxo := h.ok.each _ (lookQ_mem hx)
  obtain ⟨A, c, hl, hbyt, hnil, hcl, hA, -⟩ := que_look h k
  obtain ⟨g, rfl, hSg, hgl⟩ := hA hk
  have hl' := hl false
  have e1 : dataQ L k = x.1 := by unfold dataQ; rw [hx]; rfl
  have e2 : leftQ L k = x.2 := by unfold leftQ; rw [hx]; rfl
  have e3 : toldQ k L = if x.2 = 1 then dropQ k L else putQ k (x.1, x.2 - 1) L := by unfold toldQ; rw [hx]
  rw [e1, e2] at hl'
  rw [e1] at hbyt hcl
  obtain ⟨l, t⟩ := x
  dsimp only at hl' hbyt hcl hxo e3
  obtain ⟨-, c1⟩ := h.cells
  obtain ⟨n, hn⟩ : ∃ n, n = l.length := ⟨_, rfl⟩
  rw [← hn] at hl' hcl
  have HN := hide hn
  have HQ := hide h
  have HO := hide hxo
  have HY := hide hbyt
  have HT := hide e3
  clear hl hx e1 e2 e3 hA hnil hbyt hxo hn h
  go_enter Try.func38, Try.ntmps38
  go_upto_region 1 with (fail)
  change Code.wp _ _ _ _ (w.alloc (.cells #[.slice (some ⟨g, 0, none⟩) n c, .int .i64 (t : Int)] 73))
  obtain ⟨w1, hw1, r1, z1, b1⟩ := alloc_nm w (.cells #[.slice (some ⟨g, 0, none⟩) n c, .int .i64 (t : Int)] 73)
  rw [hw1]
  obtain ⟨G, hG⟩ : ∃ G, G = w.heap.size := ⟨_, rfl⟩
  rw [← hG] at r1
  rw [← hG]
  have HGe := hide hG
  have HB1 := hide b1
  have c1' : w1.cell? ⟨G, 1, none⟩ = some (.int .i64 (t : Int)) := (cell_of_row w1 G 1 _ _ (0, 0) r1).trans rfl
  have f1' : w1.frozen? ⟨G, 1, none⟩ = false := by simp [World.frozen?, r1]
  have hww : IntKind.i64.wrap ((t : Int) - 1) = (t : Int) - 1 := by have := HO.out.2.2.2; rw [IntKind.wrap_i64]; omega
  clear hw1 z1 b1 hG c1 hl'
  go_upto_region 2 with (fail)
  have R2 : Hid ((w1.setCell ⟨G, 1, none⟩ (.int .i64 ((t : Int) - 1))).heap[G]? = some (.cells #[.slice (some ⟨g, 0, none⟩) n c, .int .i64 ((t : Int) - 1)] 73 (0, 0))) := hide (by
    unfold World.setCell
    rw [Array.getElem?_modify, if_pos rfl, r1]; rfl)
  have HB2 : Hid (Below w.heap.size w (w1.setCell ⟨G, 1, none⟩ (.int .i64 ((t : Int) - 1)))) := hide (grown_set_new HB1.out (by rw [HGe.out]; exact Nat.le_refl _))
  obtain ⟨W2, hW2⟩ : ∃ W2, W2 = w1.setCell ⟨G, 1, none⟩ (.int .i64 ((t : Int) - 1)) := ⟨_, rfl⟩
  rw [← hW2] at R2 HB2 ⊢
  clear hW2 c1' f1' r1
  have r2 := R2.out
  have d1 : W2.cell? ⟨G, 1, none⟩ = some (.int .i64 ((t : Int) - 1)) := (cell_of_row W2 G 1 _ _ (0, 0) r2).trans rfl
  have HQ2 := hide (HQ.out.below HB2.out (Nat.le_refl _))
  obtain ⟨-, e1⟩ := HQ2.out.cells
  by_cases ht : t = 1
  · have hz : ((t : Int) - 1 == 0) = true := by rw [ht]; rfl
    have HT2 : Hid (toldQ k L = dropQ k L) := hide (by rw [HT.out, if_pos ht])
    clear ht r2
    obtain ⟨o, hd, hq⟩ := que_del HQ2.out hm k 0
    have HQ3 : Hid (QueS (W2.putObj mb o) q mb most (toldQ k L) S) := hide (by rw [HT2.out]; exact hq)
    have HG3 := hide (grown_alloc_put (r := mb) (o := o) HB2.out)
    clear hq HT2 HT
    go_wp2
    refine bodyPost_ret (results_none rfl _ _ _) rfl ?_
    exact ⟨rfl, HQ3.out, HG3.out⟩
  · have hz : ((t : Int) - 1 == 0) = false := by
      have := HO.out.2.2.2
      simp; omega
    have ht1 : ((t - 1 : Nat) : Int) = (t : Int) - 1 := by have := HO.out.2.2.2; omega
    have HT2 : Hid (toldQ k L = putQ k (l, t - 1) L) := hide (by rw [HT.out, if_neg ht])
    have hnt : NtS W2.drew S (.agg #[.slice (some ⟨g, 0, none⟩) n c, .int .i64 ((t : Int) - 1)]) (l, t - 1) := by
      refine ⟨g, c, ?_, hSg, Nat.lt_of_lt_of_le hgl HB2.out.size, by rw [← HN.out]; exact hcl, (HY.out.below (HB2.out)).more HB2.out.size⟩
      dsimp only
      rw [ht1, HN.out]
    obtain ⟨o, hst, hq⟩ := que_store HQ2.out.drew hm k _ (l, t - 1) hnt (by have := HO.out; dsimp only; omega)
    have HQ3 : Hid (QueS (W2.drew.putObj mb o) q mb most (toldQ k L) S) := hide (by rw [HT2.out]; exact hq)
    have HG3 : Hid (w.grownBy (W2.drew.putObj mb o) (some mb)) := hide (World.grownBy.trans (World.grownBy.trans (grown_ofB HB2.out (some mb)) (grown_drew W2 (some mb))) (grown_putObj _ mb o))
    clear hq HT2 HT ht hnt ht1
    go_upto_region 4 with (fail)
    have e1' : W2.drew.cell? ⟨q, 1, none⟩ = some (.map (some mb)) := e1
    have r2' : W2.drew.heap[G]? = some (.cells #[.slice (some ⟨g, 0, none⟩) n c, .int .i64 ((t : Int) - 1)] 73 (0, 0)) := r2
    go_still_tail 6, (by kernel_rfl)
    go_wp2
    go_end0
    exact ⟨rfl, HQ3.out, HG3.out⟩
end Go.Proofs.Ytajpibopknpmmaa
