/-
  The walks of Of and Bytes: addresses as bytes, there and back, the program's and the document's own.
-/
import Derived.Test.YtgbmamahkpkdfaaAdw
namespace Go.Proofs.Ytgbmamahkpkdfaa
open Go.RowKit
attribute [local go_sem ↓] exec_span exec_put exec_build heap_alloc_new heap_old
attribute [local go_sem] spanQ_ptr spanC_some heap_of_drew rs_arr rs_ad putAt_ptr putOk_ptr oldOk_some built_none World.setRow_alloc_new
set_option maxRecDepth 100000
set_option linter.unusedVariables false

/-- some bytes, and 0 behind them, sixteen in all. -/
def padL (l : List UInt8) : List UInt8 := l ++ List.replicate (16 - l.length) 0
theorem length_padL {l : List UInt8} (h : l.length ≤ 16) : (padL l).length = 16 := by simp [padL]; omega

theorem splice_pad (v : Bool) (l : List UInt8) (h : l.length ≤ 16) : splice (adL v (List.replicate 16 0)) 1 (l.map byteV) = adL v (padL l) := by
  unfold splice adL padL
  rw [List.take_succ_cons, List.take_zero, List.singleton_append, List.map_append, List.length_map, Nat.add_comm 1, List.drop_succ_cons, List.map_replicate, List.drop_replicate, List.map_replicate]

set_option maxHeartbeats 2000000 in
theorem address_any (w : World) (A : Option Addr) (c : Nat) (l : List UInt8) (v : Bool) (B : Nat) (hl : l.length ≤ 16) (hb : Byt w B A l) (hB : B ≤ w.heap.size) :
    Calls Try.prog 82 #[.slice A l.length c, .bool v] w fun e w' => e = .returned (.agg (adL v (padL l)).toArray) ∧ Below w.heap.size w w' := by
  obtain ⟨n, hn⟩ : ∃ n, n = l.length := ⟨_, rfl⟩
  rw [← hn]
  have HN := hide hn
  clear hn
  go_enter Try.func82, Try.ntmps82
  have hKs := (adk_ad v).size
  have hKo : allOne (adL v (List.replicate 16 0)).toArray = true := (adk_ad v).one
  have hbk := built_kind v
  obtain ⟨K0, hK0⟩ : ∃ K0, K0 = (adL v (List.replicate 16 0)).toArray := ⟨_, rfl⟩
  rw [← hK0] at hKs hKo hbk
  have HK0 := hide hK0
  clear hK0
  obtain ⟨W, hW, h1, h2, hz, hbw⟩ := two_blocks w (.cells adZ 60) (.cells adZ 60)
  rw [adZ_ok] at hW
  have hzs := adZ_size
  have H1 := hide h1
  have H2 := hide h2
  have HB := hide hbw
  have HZ := hide hz
  clear hz hbw
  have hcs : (l.map byteV).length = Nat.min n 16 := by rw [List.length_map, ← HN.out]; exact (Nat.min_eq_left (by have := HN.out; omega)).symm
  have hKd : K0 = (adL v (List.replicate 16 0)).toArray := HK0.out
  have hW1 : (W.setRow (w.heap.size + 1) K0).heap[w.heap.size + 1]? = some (.cells (adL v (List.replicate 16 0)).toArray 60 (0, 0)) := by rw [← hKd]; exact setRow_heap W _ _ _ _ _ h2
  have HW1 := hide hW1
  have hpos : 0 < (l.map byteV).length → some (⟨w.heap.size + 1, 1, none⟩ : Addr) = some ⟨w.heap.size + 1, 1, none⟩ ∧ ∃ ad, A = some ad ∧ ∀ j x, (l.map byteV)[j]? = some x → (W.setRow (w.heap.size + 1) K0).cell? (ad.add j) = some x := fun hp => by
    obtain ⟨b, off, rfl, hbB, hcell⟩ := hb (by simpa using hp)
    refine ⟨rfl, _, rfl, fun j x hj => ?_⟩
    obtain ⟨hjl, hjv⟩ := List.getElem?_eq_some_iff.1 hj
    have hbel := below_setRow (Below.refl (w.heap.size + 1) W) (Nat.le_refl _) K0
    rw [add_none, hbel.cell (by show b < _; omega), HB.out.cell (by show b < _; omega), hcell j (by simpa using hjl), ← hjv]
    simp [byteV]
  have HP := hide hpos
  have hfit : 1 + (l.map byteV).length ≤ (adL v (List.replicate 16 0)).length := by simp [adL]; omega
  have hY : AdV (adL v (padL l)).toArray v (padL l) := AdV.mk' (length_padL hl)
  obtain ⟨Y, hYY⟩ : ∃ Y, Y = (adL v (padL l)).toArray := ⟨_, rfl⟩
  rw [← hYY] at hY ⊢
  have HY := hide hYY
  have hYs := hY.size
  have hYr := hY.x0
  have hYo : allOne Y = true := hY.one
  clear hW1 hpos hKd hYY
  go_wp2_with (with_reducible refine wpList_copy_splice rfl (.tmp 9) (.tmp 10) 22 22 rfl 5 Try.underlying22 (by kernel_rfl) (some ⟨w.heap.size + 1, 1, none⟩) A 16 16 n c rfl rfl (w.heap.size + 1) 1 (adL v (List.replicate 16 0)) 60 HW1.out (l.map byteV) hcs HP.out hfit (byteV_one l) (w.heap.size + 1) W (below_setRow (Below.refl _ W) (Nat.le_refl _) K0) (Nat.le_refl _) ?_; intro w4 hg4 hb4; have h14 := row_kept hb4 (by omega) H1.out; have h24 : w4.heap[w.heap.size + 1]? = some (.cells Y 60 (0, 0)) := by (rw [HY.out, ← splice_pad v l hl]; exact hg4.out))
  refine bodyPost_ret (results_cell_row (fn := Try.f82) Try.results82 _ _ w.heap.size 60 Y (0, 0) _ rfl (setRow_heap w4 _ _ _ _ _ h14) Try.underlying60 rfl (by rw [hYs]; exact info_ad)) rfl ⟨rfl, below_setRow (HB.out.trans (hb4.mono (by omega))) (Nat.le_refl _) _⟩

/-- what comes of bytes as an address, and the error. -/
def ofV (l : List UInt8) : Bool := l.length == 16
def ofB (l : List UInt8) : List UInt8 := if l.length = 4 ∨ l.length = 16 then padL l else List.replicate 16 0
def ofE (l : List UInt8) : Int := if l.length = 4 ∨ l.length = 16 then 0 else 3
theorem length_ofB (l : List UInt8) : (ofB l).length = 16 := by
  unfold ofB
  split
  · next h => exact length_padL (by omega)
  · simp

set_option maxHeartbeats 2000000 in
theorem of_any (w : World) (A : Option Addr) (c : Nat) (l : List UInt8) (B : Nat) (hl : l.length ≤ 140737488355328) (hb : Byt w B A l) (hB : B ≤ w.heap.size) :
    Calls Try.prog 85 #[.slice A l.length c] w fun e w' => (∃ Y, e = .returned (.tuple #[.agg Y, .int .i64 (ofE l)]) ∧ AdV Y (ofV l) (ofB l)) ∧ Below w.heap.size w w' := by
  go_enter Try.func85, Try.ntmps85
  obtain ⟨W, hW, h1, hz, hbw⟩ := one_block w (.cells adZ 60)
  rw [adZ_ok] at hW
  have hzs := adZ_size
  have hzo : allOne adZ = true := adZ_ad.one
  have HB := hide hbw
  have HZ := hide hz
  have H1 := hide h1
  clear hz hbw
  by_cases h4 : l.length = 4
  · have hpl := hide (length_padL (l := l) (by omega))
    have hE := hide (show ofE l = 0 by unfold ofE; rw [if_pos (.inl h4)])
    have hV := hide (show ofV l = false by unfold ofV; rw [h4]; rfl)
    have hBB := hide (show ofB l = padL l by unfold ofB; rw [if_pos (.inl h4)])
    have ha := hide (address_any W A c l false W.heap.size (by omega) ((hb.below (HB.out.mono hB)).more (by have := HZ.out; omega)) (Nat.le_refl _))
    have hY : AdV (adL false (padL l)).toArray false (padL l) := AdV.mk' hpl.out
    obtain ⟨Y, hYY⟩ : ∃ Y, Y = (adL false (padL l)).toArray := ⟨_, rfl⟩
    rw [← hYY] at hY ha
    rw [h4] at ha ⊢
    have hYs := hY.size
    have hYo : allOne Y = true := hY.one
    have HL := hide h4
    clear hYY h4 hl
    go_wp2_with (go_at_call 82; refine ha.out.mono ?_; rintro e w2 ⟨rfl, hb2⟩; have h12 := row_kept hb2 (by have := HZ.out; omega) H1.out)
    refine bodyPost_ret (results_cell_tmp (fn := Try.f85) Try.results85 _ _ w.heap.size 60 Y (0, 0) _ rfl (setRow_heap w2 _ _ _ _ _ h12) Try.underlying60 rfl (by rw [hYs]; exact info_ad)) rfl ⟨⟨Y, ?_, ?_⟩, below_setRow (HB.out.trans (hb2.mono (by have := HZ.out; omega))) (Nat.le_refl _) _⟩
    · rw [hE.out]; rfl
    · rw [hV.out, hBB.out]; exact hY
  · by_cases h16 : l.length = 16
    · have hpl := hide (length_padL (l := l) (by omega))
      have hE := hide (show ofE l = 0 by unfold ofE; rw [if_pos (.inr h16)])
      have hV := hide (show ofV l = true by unfold ofV; rw [h16]; rfl)
      have hBB := hide (show ofB l = padL l by unfold ofB; rw [if_pos (.inr h16)])
      have ha := hide (address_any W A c l true W.heap.size (by omega) ((hb.below (HB.out.mono hB)).more (by have := HZ.out; omega)) (Nat.le_refl _))
      have hY : AdV (adL true (padL l)).toArray true (padL l) := AdV.mk' hpl.out
      obtain ⟨Y, hYY⟩ : ∃ Y, Y = (adL true (padL l)).toArray := ⟨_, rfl⟩
      rw [← hYY] at hY ha
      rw [h16] at ha ⊢
      have hYs := hY.size
      have hYo : allOne Y = true := hY.one
      have HL := hide h16
      clear hYY h16 h4 hl
      go_wp2_with (go_at_call 82; refine ha.out.mono ?_; rintro e w2 ⟨rfl, hb2⟩; have h12 := row_kept hb2 (by have := HZ.out; omega) H1.out)
      refine bodyPost_ret (results_cell_tmp (fn := Try.f85) Try.results85 _ _ w.heap.size 60 Y (0, 0) _ rfl (setRow_heap w2 _ _ _ _ _ h12) Try.underlying60 rfl (by rw [hYs]; exact info_ad)) rfl ⟨⟨Y, ?_, ?_⟩, below_setRow (HB.out.trans (hb2.mono (by have := HZ.out; omega))) (Nat.le_refl _) _⟩
      · rw [hE.out]; rfl
      · rw [hV.out, hBB.out]; exact hY
    · have hE := hide (show ofE l = 3 by unfold ofE; rw [if_neg (by omega)])
      have hV := hide (show ofV l = false by unfold ofV; exact beq_false_of_ne h16)
      have hBB := hide (show ofB l = List.replicate 16 0 by unfold ofB; rw [if_neg (by omega)])
      have h4i : ((l.length : Int) != 4) = true := by simp; omega
      have h16i : ((l.length : Int) != 16) = true := by simp; omega
      go_wp2
      refine bodyPost_ret (results_cell_tmp (fn := Try.f85) Try.results85 _ _ w.heap.size 60 adZ (0, 0) _ rfl (setRow_heap W _ _ _ _ _ H1.out) Try.underlying60 rfl info_ad) rfl ⟨⟨adZ, ?_, ?_⟩, below_setRow HB.out (Nat.le_refl _) _⟩
      · rw [hE.out]; rfl
      · rw [hV.out, hBB.out]; exact adZ_ad
end Go.Proofs.Ytgbmamahkpkdfaa
