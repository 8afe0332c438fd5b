/-
  One vote more: what the memory holds behind a round of given.
-/
import Derived.Test.YtmbddengmheeeaaLfv
namespace Go.Proofs.Ytmbddengmheeeaa
open Go.RowKit
set_option linter.unusedVariables false

theorem GvI.step {w wr W0 w4 : World} {g0 g1 g2 : Nat} {X Z : Array Value} {k : Kn} {j : Nat} {A : Option Addr} {c : Nat} (h : GvI w wr g0 g1 g2 X Z k j A c) (h0 : w.heap.size ≤ g0) (h1 : g0 < g1) (h2 : g1 < g2)
    (hb : Below wr.heap.size wr W0) (hgrow : W0.grownBy w4 (Value.slice A (kTake k j).vs.length c).ownBlock) {gg cap : Nat} {y : Int × Bool} (hT : (kTake k (j + 1)).vs = (kTake k j).vs ++ [y]) (hL : (kTake k j).vs.length = j)
    (hown4 : w4.ownsRow (g2 + 1) 46 2 (.slice (some ⟨gg, 0, none⟩) (j + 1) cap) (j + 1) (voC (kTake k j).vs ++ [.int .i64 y.1, .bool y.2])) :
    GvI w (w4.setCell ⟨g2, 22, none⟩ (.slice (some ⟨gg, 0, none⟩) (j + 1) cap)) g0 g1 g2 X Z k (j + 1) (some ⟨gg, 0, none⟩) cap := by
  have hs := h.size
  have hown := h.own
  unfold OwnVo at hown
  have hne : ∀ b, b ≤ g2 → some b ≠ (Value.slice A (kTake k j).vs.length c).ownBlock := fun b hb e => by
    have := (World.ownsRow.lt hown b e.symm).1; omega
  have hk : ∀ b, b ≤ g2 → w4.heap[b]? = wr.heap[b]? := fun b hb' =>
    (hgrow.block b (by have := hb.size; omega) (hne b hb')).trans (hb.block b (by omega))
  have hsz : wr.heap.size ≤ w4.heap.size := Nat.le_trans hb.size hgrow.size
  have hb4 : Below w.heap.size w w4 := (h.bel.trans (hb.mono h.bel.size)).grown hgrow (Nat.le_trans h.bel.size hb.size) (fun i hi => by
    have := (World.ownsRow.lt hown i hi).1; omega)
  have gg4 := grown_lf w4 g2 22 (.slice (some ⟨gg, 0, none⟩) (j + 1) cap)
  have hlen : (kTake k (j + 1)).vs.length = j + 1 := by rw [hT, List.length_append, hL]; rfl
  have hkl : (kTake k (j + 1)).vs.length = (kTake k (j + 1)).vs.length := rfl
  obtain ⟨Y, hY, hYr⟩ := h.ry
  refine ⟨?_, ?_, ?_, ?_, hb4.grown gg4 (by have := h.bel.size; omega) (fun i hi => by cases hi; omega), by rw [Nat.lt_iff_add_one_le]; have := gg4.size; omega⟩
  · exact (gg4.block g0 (by omega) (by simp; omega)).trans ((hk g0 (by omega)).trans h.rx)
  · exact (gg4.block g1 (by omega) (by simp; omega)).trans ((hk g1 (by omega)).trans h.rz)
  · refine ⟨_, ?_, heap_setCell_same w4 g2 22 _ _ _ ((hk g2 (Nat.le_refl _)).trans hYr)⟩
    have e : RcV Y ((kTake k (j + 1)).rc A c) → RcV (Y.setIfInBounds 22 (.slice (some ⟨gg, 0, none⟩) (kTake k (j + 1)).vs.length cap)) ((kTake k (j + 1)).rc (some ⟨gg, 0, none⟩) cap) := fun hh => rc_set22 hh
    have hl := len_spL hY.la
    refine ⟨?_, hY.la, hY.wf⟩
    rw [hY.eq, List.setIfInBounds_toArray]
    congr 1
    simp only [Kn.rc] at hl
    simp only [rcL, Kn.rc, List.set_cons_succ]
    rw [List.set_append_right _ _ (by omega), hl, hlen]; rfl
  · unfold OwnVo
    rw [hlen, hT, voC_snoc]
    exact ownV_kept hown4 gg4 (Nat.lt_succ_self _)
end Go.Proofs.Ytmbddengmheeeaa
