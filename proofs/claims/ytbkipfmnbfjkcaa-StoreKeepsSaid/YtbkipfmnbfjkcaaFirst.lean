/-
  The walk of 'first': the first bits of an address's bytes.
-/
import Derived.Test.YtbkipfmnbfjkcaaAd
namespace Go.Proofs.Ytbkipfmnbfjkcaa
open Go.RowKit

set_option maxRecDepth 100000 in
set_option maxHeartbeats 1000000 in
theorem first_any (w : World) (l : List UInt8) (n : Nat) (hl : l.length = 16) (hn : n ≤ 128) :
    Calls Try.prog 69 #[.agg (l.map byteV).toArray, .int .i64 (n : Int)] w fun e w' => e = .returned (.agg ((maskL l n).map byteV).toArray) ∧ Below w.heap.size w w' := by
  obtain ⟨k, hk⟩ : ∃ k, k = n / 8 := ⟨_, rfl⟩
  obtain ⟨r, hr⟩ : ∃ r, r = n % 8 := ⟨_, rfl⟩
  have hk16 : k ≤ 16 := by omega
  have hr8 : r < 8 := by omega
  have ek : ((n : Int) / 8) = (k : Int) := by omega
  have er : ((n : Int) % 8) = (r : Int) := by omega
  have HK := hide hk
  have HR := hide hr
  clear hk hr
  go_enter Try.func69, Try.ntmps69
  go_wp2
  rw [er]
  obtain ⟨W, hW, h0, h1, h2, hz, hb⟩ := three_blocks w (.cells (l.map byteV).toArray 59) (.cells zer16.toArray 59) (.cells zer16.toArray 59)
  rw [zer16_ok] at hW
  rw [hW]
  have hki : (k : Int) ≤ 16 := by omega
  have hk0 : (0 : Int) ≤ (k : Int) := by omega
  clear hW ek er
  have hz16 : splice zer16 0 ((l.take k).map byteV) = (maskL l (8 * k)).map byteV := by
    have e := maskL_first l n (by omega)
    rw [← HK.out, hl] at e
    rw [Nat.mul_comm, e, splice, List.map_append, List.map_replicate, List.take_zero, List.nil_append, Nat.zero_add, List.length_map, List.length_take, hl, Nat.min_eq_left hk16, zer16, List.drop_replicate]
    rfl
  have hsrc : ∀ j v, ((l.take k).map byteV)[j]? = some v → W.drew.cell? ((⟨w.heap.size, 0, none⟩ : Addr).add j) = some v := fun j v hv => by
    rw [add_none, World.cell?_drew, cell_of_row W _ _ _ _ _ h0]
    rw [List.map_take, List.getElem?_take] at hv
    split at hv
    · simpa using hv
    · cases hv
  have hlk : ((l.take k).map byteV).length = Nat.min k 16 := by rw [List.length_map, List.length_take, hl]
  have hfk : 0 + ((l.take k).map byteV).length ≤ zer16.length := by simp [zer16]; omega
  go_region_law ((refine step_copy_splice rfl (.tmp 12) (.tmp 14) 135 135 rfl 5 Try.underlying135 (by kernel_rfl) (some ⟨w.heap.size + 1 + 1, 0, none⟩) (some ⟨w.heap.size, 0, none⟩) 16 16 k 16 (by rfl) (by rfl) (w.heap.size + 1 + 1) 0 zer16 59 h2 ((l.take k).map byteV) hlk (fun _ => ⟨rfl, _, rfl, hsrc⟩) hfk (byteV_one _) (w.heap.size + 1 + 1) W (Below.refl _ W).drew (Nat.le_refl _) ?_; intro w4 hg4 hb4))
  rw [hz16] at hg4
  have h04 := (hb4.block w.heap.size (by omega)).trans h0
  have h14 := (hb4.block (w.heap.size + 1) (by omega)).trans h1
  have hb := hb.trans (hb4.mono (by omega))
  have hb0 := hide hb
  clear h0 h1 h2 hz16 hb4 hb hsrc hlk hfk
  have hu := Try.underlying59
  by_cases hr0 : r = 0
  · subst hr0
    have hfin : maskL l (8 * k) = maskL l n := by rw [show n = 8 * k from by have := HK.out; have := HR.out; omega]
    rw [hfin] at hg4
    have hs1 := arr_size (l := maskL l n) (by rw [length_maskL, hl])
    have hs2 := arr_one (maskL l n)
    have HF := hide hg4.out
    obtain ⟨Y, hY⟩ : ∃ Y, Y = ((maskL l n).map byteV).toArray := ⟨_, rfl⟩
    rw [← hY] at HF hs1 hs2
    have HY := hide hY
    clear hg4 hY
    have hi1 : (Try.prog.info? 59).map (·.size) = some Y.size := by rw [hs1]; exact info_arr
    have hz1 : zer16.toArray.size = Y.size := by rw [hs1]; rfl
    go_wp2_with (first
      | (with_reducible refine wpList_load_row rfl 59 (.tmp 5) rfl (w.heap.size + 1 + 1) rfl 59 Y (0, 0) _ HF.out hu rfl hi1 ?_)
      | (with_reducible refine wpList_store_let rfl 59 (.tmp 4) (.tmp 26) rfl (w.heap.size + 1) Y rfl rfl 59 zer16.toArray h14 hi1 hz1 hs2 ?_
         intro w5 h15 hoth hz5 hb5))
    refine bodyPost_ret (results_cell_row (fn := Try.f69) Try.results69 _ _ (w.heap.size + 1) 59 Y (0, 0) _ rfl h15 hu rfl hi1) rfl ⟨by rw [HY.out], hb0.out.trans (hb5.mono (by omega))⟩
  · have hri : (0 : Int) < (r : Int) := by omega
    have hk15' : n / 8 < l.length := by have := HK.out; have := HR.out; omega
    have hk15 : k < 16 := by have := HK.out; have := HR.out; omega
    have hki : (k : Int) < 16 := by omega
    have hc0 : w4.cell? ⟨w.heap.size, k, none⟩ = some (.int .u8 (l[k].toNat : Int)) := by rw [cell_of_row w4 _ _ _ _ _ h04]; simp [byteV, hl, hk15]
    have hlen : k < (maskL l (8 * k)).length := by rw [length_maskL, hl]; exact hk15
    obtain ⟨y, hy⟩ : ∃ y, y = (maskL l (8 * k))[k] := ⟨_, rfl⟩
    have hc2 : w4.cell? ⟨w.heap.size + 1 + 1, k, none⟩ = some (.int .u8 (y.toNat : Int)) := by rw [cell_of_row w4 _ _ _ _ _ hg4.out]; simp [byteV, hlen, hy]
    have hf2 : w4.frozen? ⟨w.heap.size + 1 + 1, k, none⟩ = false := frozen_of_row w4 _ _ _ _ hg4.out
    have hx := l[k].toNat_lt
    have HG4 := hide hg4
    obtain ⟨xb, hxb⟩ : ∃ xb, xb = l[k] := ⟨_, rfl⟩
    rw [← hxb] at hc0 hx
    clear hg4
    go_wp2
    go_region
    have hfin : (maskL l (8 * k)).set k (tb l[k] r) = maskL l n := by
      obtain rfl := HK.out
      obtain rfl := HR.out
      rw [maskL_more l n hk15' (by omega), Nat.mul_comm]
    have hs1 := arr_size (l := maskL l n) (by rw [length_maskL, hl])
    have hs2 := arr_one (maskL l n)
    obtain ⟨w6, hw6⟩ : ∃ w6, w6 = (w4.setCell { block := w.heap.size + 1 + 1, off := k } (Value.int IntKind.u8 (bits BinOp.andNot IntKind.u8 (↑l[k].toNat) (255 / 2 ^ r)))).drew := ⟨_, rfl⟩
    rw [← hw6]
    have h26 : w6.heap[w.heap.size + 1 + 1]? = some (.cells ((maskL l n).map byteV).toArray 59 (0, 0)) := by
      rw [hw6, andNot_tb _ _ hr8]
      have := heap_setCell_same w4 (w.heap.size + 1 + 1) k _ _ (byteV (tb l[k] r)) HG4.out.out
      rw [List.setIfInBounds_toArray, ← List.map_set, hfin] at this
      exact this
    have h16 : w6.heap[w.heap.size + 1]? = some (.cells zer16.toArray 59 (0, 0)) := by
      rw [hw6]; exact (heap_setCell_other w4 _ _ _ (by simp)).trans h14
    have hb6' : Below w.heap.size w4 w6 := by rw [hw6]; exact ((Below.refl w.heap.size w4).setCell (by show w.heap.size ≤ w.heap.size + 1 + 1; omega) _).drew
    have hb6 := hide (hb0.out.trans hb6')
    obtain ⟨Y, hY⟩ : ∃ Y, Y = ((maskL l n).map byteV).toArray := ⟨_, rfl⟩
    rw [← hY] at h26 hs1 hs2
    have HY := hide hY
    have HF := hide h26
    clear hY h26 hw6
    have hi1 : (Try.prog.info? 59).map (·.size) = some Y.size := by rw [hs1]; exact info_arr
    have hz1 : zer16.toArray.size = Y.size := by rw [hs1]; rfl
    go_wp2_with (first
      | (with_reducible refine wpList_load_row rfl 59 (.tmp 5) rfl (w.heap.size + 1 + 1) rfl 59 Y (0, 0) _ HF.out hu rfl hi1 ?_)
      | (with_reducible refine wpList_store_let rfl 59 (.tmp 4) (.tmp 26) rfl (w.heap.size + 1) Y rfl rfl 59 zer16.toArray h16 hi1 hz1 hs2 ?_
         intro w5 h15 hoth hz5 hb5))
    refine bodyPost_ret (results_cell_row (fn := Try.f69) Try.results69 _ _ (w.heap.size + 1) 59 Y (0, 0) _ rfl h15 hu rfl hi1) rfl ⟨by rw [HY.out], hb6.out.trans (hb5.mono (by omega))⟩
end Go.Proofs.Ytbkipfmnbfjkcaa
