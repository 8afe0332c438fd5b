/-
  The walks of the document's own masks: bit by bit; of Within; and of fixed calls.
-/
import Derived.Test.YtmhoedbhfaocjabAdk
import Derived.Deep.WholeRow
namespace Go.Proofs.Ytmhoedbhfaocjab
open Go.RowKit
attribute [local go_sem ↓] exec_span exec_put exec_build heap_alloc_new
attribute [local go_sem] spanQ_ptr spanC_some heap_of_drew rs_arr rs_ad putAt_ptr putOk_ptr oldOk_some built_none World.setRow_alloc_new
set_option maxRecDepth 100000
set_option linter.unusedVariables false

theorem wrap_i (n : Int) (h1 : -9223372036854775808 ≤ n) (h2 : n ≤ 9223372036854775807) : IntKind.i64.wrap n = n := by rw [IntKind.wrap_i64]; omega
theorem wrap_u (n : Int) (h1 : 0 ≤ n) (h2 : n ≤ 18446744073709551615) : IntKind.u64.wrap n = n := by rw [IntKind.wrap_u64]; omega

theorem bit_table : ∀ (r : Fin 8) (x : Fin 256), bits .and .u8 ((x.val : Int) / 2 ^ (7 - r.val)) 1 = ((x.val / 2 ^ (7 - r.val) % 2 : Nat) : Int) := by decide +kernel
theorem bit_eq (x : UInt8) (r : Nat) (hr : r < 8) : bits .and .u8 ((x.toNat : Int) / 2 ^ (7 - r)) 1 = ((x.toNat / 2 ^ (7 - r) % 2 : Nat) : Int) := bit_table ⟨r, hr⟩ ⟨x.toNat, x.toNat_lt⟩

set_option maxHeartbeats 1000000 in
theorem bit_any (w : World) (X : Array Value) (v : Bool) (l : List UInt8) (i : Nat) (hi : i / 8 < l.length) (h : AdV X v l) :
    Calls Try.prog 57 #[.agg X, .int .i64 (i : Int)] w fun e w' => e = .returned (.int .u8 ((l[i / 8].toNat / 2 ^ (7 - i % 8) % 2 : Nat) : Int)) ∧ Below w.heap.size w w' := by
  go_enter Try.func57, Try.ntmps57
  obtain ⟨k, hk⟩ : ∃ k, k = i / 8 := ⟨_, rfl⟩
  obtain ⟨r, hr⟩ : ∃ r, r = i % 8 := ⟨_, rfl⟩
  have hr8 : r < 8 := by omega
  have hl := h.len
  have ek : ((i : Int) / 8) = (k : Int) := by omega
  have er : ((i : Int) % 8) = (r : Int) := by omega
  obtain ⟨W, hW, h1, hz, hb⟩ := one_block w (.cells X 25)
  have hkl : k < l.length := by omega
  have hc : W.cell? ⟨w.heap.size, 1 + k, none⟩ = some (.int .u8 (l[k].toNat : Int)) := by rw [cell_of_row W _ _ _ _ _ h1]; exact h.at k hkl
  have HX : Hid (l[i / 8]'hi = l[k]'hkl) := hide (by simp [hk])
  have HRR : Hid (7 - i % 8 = 7 - r) := hide (by rw [hr])
  have hk0 : (0 : Int) ≤ (k : Int) := by omega
  have hk16 : (k : Int) < 16 := by omega
  obtain ⟨x, hx⟩ : ∃ x, x = l[k] := ⟨_, rfl⟩
  rw [← hx] at hc
  have HXX := hide hx
  have HB := hide hb
  clear hz hb hk hr hx
  have hxb := x.toNat_lt
  go_wp2
  go_ret
  exact ⟨by rw [HX.out, HRR.out, ← HXX.out, ← bit_eq x r hr8]; rfl, HB.out⟩

theorem or_table : ∀ (r : Fin 8) (x : Fin 256), bits .or .u8 ((x.val / 2 ^ (8 - r.val) * 2 ^ (8 - r.val) : Nat) : Int) (IntKind.u8.wrap (((x.val / 2 ^ (7 - r.val) % 2 : Nat) : Int) * 2 ^ (7 - r.val))) = ((x.val / 2 ^ (8 - (r.val + 1)) * 2 ^ (8 - (r.val + 1)) : Nat) : Int) := by decide +kernel
theorem or_eq (x : UInt8) (r : Nat) (hr : r < 8) : bits .or .u8 ((tb x r).toNat : Int) (IntKind.u8.wrap (((x.toNat / 2 ^ (7 - r) % 2 : Nat) : Int) * 2 ^ (7 - r))) = ((tb x (r + 1)).toNat : Int) := by
  have := or_table ⟨r, hr⟩ ⟨x.toNat, x.toNat_lt⟩
  rw [tb_toNat, tb_toNat]
  exact this
theorem AdV.set {v : Bool} {l : List UInt8} (h : l.length = 16) (j : Nat) (u : UInt8) : (adL v l).toArray.setIfInBounds (1 + j) (.int .u8 (u.toNat : Int)) = (adL v (l.set j u)).toArray := by
  rw [List.setIfInBounds_toArray, Nat.add_comm]
  unfold adL
  rw [List.set_cons_succ, List.map_set]
  rfl

theorem adk_ad (v : Bool) : AdV (adL v (List.replicate 16 0)).toArray v (List.replicate 16 0) := AdV.mk' rfl

set_option maxHeartbeats 4000000 in
theorem refmask_any (w : World) (X : Array Value) (v : Bool) (l : List UInt8) (n : Int) (h : AdV X v l) (hn0 : -9223372036854775808 ≤ n) (hn1 : n ≤ 9223372036854775807) :
    Calls Try.prog 25 #[.agg X, .int .i64 n] w fun e w' => (∃ Y, e = .returned (.tuple #[.agg Y, .int .i64 (maskE v l n)]) ∧ AdV Y (maskV v l n) (maskB v l n)) ∧ Below w.heap.size w w' := by
  go_enter Try.func25, Try.ntmps25
  have hx0 := h.c0
  have hxs := h.size
  have hxr := h.x0
  obtain ⟨W, hW, h1, h2, hz, hb⟩ := two_blocks w (.cells X 25) (.cells adZ 25)
  rw [adZ_ok] at hW
  have hzs := adZ_size
  have hzo : allOne adZ = true := adZ_ad.one
  have hrt := hide (fun W => refright_any W X v l h)
  have hsz := hide (fun W => refsize_any W X v l h)
  have hB := hide hb
  have hlt : Hid (W.heap.size = w.heap.size + 2) := hide hz
  have H1 := hide h1
  have H2 := hide h2
  clear hz hb
  obtain ⟨R, hR⟩ : ∃ R, R = rightL v l := ⟨_, rfl⟩
  rw [← hR] at hrt
  have HR := hide hR
  clear hR
  cases R
  · have hok : maskOk v l n = false := by unfold maskOk; rw [← HR.out]; simp
    have HOK := hide hok
    clear hok
    go_wp2_with (go_at_call 20; refine (hrt.out _).mono ?_; rintro e w2 ⟨rfl, hb2⟩; have h12 := row_kept hb2 (by have := hlt.out; simp; omega) H1.out; have h22 := row_kept hb2 (by have := hlt.out; simp; omega) H2.out)
    refine bodyPost_ret (results_cell_tmp (fn := Try.f25) Try.results25 _ _ (w.heap.size + 1) 25 adZ (0, 0) _ rfl (setRow_heap w2 _ _ _ _ _ h22) Try.underlying25 rfl info_ad) rfl ⟨⟨adZ, ?_, ?_⟩, below_setRow (hB.out.trans (hb2.mono (by have := hlt.out; omega))) (by omega) _⟩
    · rw [mask_no HOK.out]; rfl
    · rw [mask_noV HOK.out, mask_noB HOK.out]; exact adZ_ad
  · by_cases hneg : n < 0
    · have hok : maskOk v l n = false := by unfold maskOk; rw [show decide (0 ≤ n) = false from decide_eq_false (by omega)]; simp
      have HOK := hide hok
      clear hok
      go_wp2_with (go_at_call 20; refine (hrt.out _).mono ?_; rintro e w2 ⟨rfl, hb2⟩; have h12 := row_kept hb2 (by have := hlt.out; simp; omega) H1.out; have h22 := row_kept hb2 (by have := hlt.out; simp; omega) H2.out)
      refine bodyPost_ret (results_cell_tmp (fn := Try.f25) Try.results25 _ _ (w.heap.size + 1) 25 adZ (0, 0) _ rfl (setRow_heap w2 _ _ _ _ _ h22) Try.underlying25 rfl info_ad) rfl ⟨⟨adZ, ?_, ?_⟩, below_setRow (hB.out.trans (hb2.mono (by have := hlt.out; omega))) (by omega) _⟩
      · rw [mask_no HOK.out]; rfl
      · rw [mask_noV HOK.out, mask_noB HOK.out]; exact adZ_ad
    · obtain ⟨S, hS⟩ : ∃ S, S = sizeA v := ⟨_, rfl⟩
      have hS16 : S ≤ 16 := by rw [hS]; unfold sizeA; split <;> omega
      rw [← hS] at hsz
      have HS := hide hS
      clear hS
      by_cases hbig : n > 8 * (S : Int)
      · have hok : maskOk v l n = false := by unfold maskOk; rw [← HS.out, show decide (n ≤ ((8 * S : Nat) : Int)) = false from decide_eq_false (by omega)]; simp
        have HOK := hide hok
        clear hok
        go_wp2_with (first
          | (go_at_call 20; refine (hrt.out _).mono ?_; rintro e w2 ⟨rfl, hb2⟩; have h12 := row_kept hb2 (by have := hlt.out; simp; omega) H1.out; have h22 := row_kept hb2 (by have := hlt.out; simp; omega) H2.out)
          | (go_at_call 54; refine (hsz.out _).mono ?_; rintro e w3 ⟨rfl, hb3⟩; have hlt2 : Hid (W.heap.size ≤ w2.heap.size) := hide (by exact hb2.size); have h13 := row_kept hb3 (by have := hlt.out; have := hlt2.out; omega) h12; have h23 := row_kept hb3 (by have := hlt.out; have := hlt2.out; omega) h22))
        refine bodyPost_ret (results_cell_tmp (fn := Try.f25) Try.results25 _ _ (w.heap.size + 1) 25 adZ (0, 0) _ rfl (setRow_heap w3 _ _ _ _ _ h23) Try.underlying25 rfl info_ad) rfl ⟨⟨adZ, ?_, ?_⟩, below_setRow ((hB.out.trans (hb2.mono (by have := hlt.out; omega))).trans (hb3.mono (by have := hlt.out; have := hlt2.out; omega))) (by omega) _⟩
        · rw [mask_no HOK.out]; rfl
        · rw [mask_noV HOK.out, mask_noB HOK.out]; exact adZ_ad
      · have hok : maskOk v l n = true := by unfold maskOk; rw [← HS.out, ← HR.out, show decide (n ≤ ((8 * S : Nat) : Int)) = true from decide_eq_true (by omega), show decide (0 ≤ n) = true from decide_eq_true (by omega)]; rfl
        have HOK := hide hok
        clear hok
        obtain ⟨k, rfl⟩ : ∃ k : Nat, n = (k : Int) := ⟨n.toNat, by omega⟩
        have hKs := (adk_ad v).size
        have hKo : allOne (adL v (List.replicate 16 0)).toArray = true := (adk_ad v).one
        have HKA := hide (adk_ad v)
        have hbk := built_kind v
        obtain ⟨K0, hK0⟩ : ∃ K0, K0 = (adL v (List.replicate 16 0)).toArray := ⟨_, rfl⟩
        rw [← hK0] at hKs hKo HKA hbk
        have HKK := hide (fun (W : World) (g : Nat) (hg : W.heap[g]? = some (.cells X 25 (0, 0))) => h.kind hg)
        have HKE := hide hK0
        clear hK0
        go_wp2_with (first
          | (go_at_call 20; refine (hrt.out _).mono ?_; rintro e w2 ⟨rfl, hb2⟩; have h12 := row_kept hb2 (by have := hlt.out; simp; omega) H1.out; have h22 := row_kept hb2 (by have := hlt.out; simp; omega) H2.out)
          | (go_at_call 54; refine (hsz.out _).mono ?_; rintro e w3 ⟨rfl, hb3⟩; have hlt2 : Hid (W.heap.size ≤ w2.heap.size) := hide (by exact hb2.size); have h13 := row_kept hb3 (by have := hlt.out; have := hlt2.out; omega) h12; have h23 := row_kept hb3 (by have := hlt.out; have := hlt2.out; omega) h22; have k13 := HKK.out w3 _ h13))
        have HB3 : Hid (Below w.heap.size w w3) := hide ((hB.out.trans (hb2.mono (by have := hlt.out; omega))).trans (hb3.mono (by have := hlt.out; have := hlt2.out; omega)))
        have hg0 : Hid (w.heap.size + 1 < w3.heap.size) := hide (by have := hlt.out; have := hlt2.out; have := hb3.size; omega)
        have H13 := hide h13
        have H23 := hide h23
        have hkS : k ≤ 128 := by omega
        have HS2 : Hid (k ≤ 8 * S) := hide (by omega)
        have hll := h.len
        have hbit := hide (fun (W : World) (i : Nat) (hi : i / 8 < l.length) => bit_any W X v l i hi h)
        clear hb2 h12 h22 hb3 h13 h23 k13 hW h1 h2 hrt hsz hbk
        go_loopw [7] (fun i wr => ∃ j : Nat, j ≤ k ∧ i = .int .i64 (j : Int) ∧ Hid (wr.heap[w3.heap.size]? = some (.cells (adL v (maskL l j)).toArray 25 (0, 0))) ∧ Hid (Below w3.heap.size w3 wr) ∧ Hid (w3.heap.size < wr.heap.size)) (fun i _ => k - (intOf i).toNat)
        case atStart =>
          refine ⟨0, by omega, rfl, hide ?_, hide ((Below.refl _ _).alloc (Nat.le_refl _) _), hide (by simp)⟩
          rw [heap_alloc_new, maskL_zero, hll, HKE.out]
        case round =>
          obtain ⟨j, hj, rfl, hcur, hbr, hlr⟩ := hrel
          by_cases hlt3 : j < k
          · obtain ⟨q, hq⟩ : ∃ q, q = j / 8 := ⟨_, rfl⟩
            obtain ⟨r, hr⟩ : ∃ r, r = j % 8 := ⟨_, rfl⟩
            have hq16 : q < 16 := by omega
            have hr8 : r < 8 := by omega
            have eq1 : ((j : Int) / 8) = (q : Int) := by omega
            have er1 : ((j : Int).tmod 8) = (r : Int) := by rw [Int.tmod_eq_emod_of_nonneg (by omega)]; omega
            have ew1 : IntKind.i64.wrap (q : Int) = (q : Int) := wrap_i _ (by omega) (by omega)
            have es1 : (7 : Int) - (r : Int) = ((7 - r : Nat) : Int) := by omega
            have ew2 : IntKind.i64.wrap ((7 - r : Nat) : Int) = ((7 - r : Nat) : Int) := wrap_i _ (by omega) (by omega)
            have ew3 : IntKind.u64.wrap ((7 - r : Nat) : Int) = ((7 - r : Nat) : Int) := wrap_u _ (by omega) (by omega)
            have hq0 : (0 : Int) ≤ (q : Int) := by omega
            have hq1 : (q : Int) < 16 := by omega
            have hql : q < l.length := by omega
            have hqj : j / 8 < l.length := by omega
            obtain ⟨x, hx⟩ : ∃ x, x = l[q] := ⟨_, rfl⟩
            have hc : wr.cell? ⟨w3.heap.size, 1 + q, none⟩ = some (.int .u8 ((tb x r).toNat : Int)) := by
              rw [cell_of_row wr _ _ _ _ _ hcur.out, (AdV.mk' (v := v) (l := maskL l j) (by rw [length_maskL, hll])).at q (by rw [length_maskL]; omega)]
              have := getElem_maskL_at l j hqj
              simp only [← hq, ← hr] at this
              rw [this, hx]
            have hf : wr.frozen? ⟨w3.heap.size, 1 + q, none⟩ = false := frozen_of_row wr _ _ _ _ hcur.out
            have hX := row_kept hbr.out (by have := hg0.out; omega) H13.out
            have hkX := HKK.out wr _ hX
            have HQ := hide hq
            have HR1 := hide hr
            have HXX := hide hx
            have hbit1 := hide (fun W => hbit.out W j hqj)
            have hbitv : l[j / 8].toNat / 2 ^ (7 - j % 8) % 2 = x.toNat / 2 ^ (7 - r) % 2 := by simp only [← hq, ← hr, hx]
            rw [hbitv] at hbit1
            clear hq hr hx hbitv
            have hxb := (tb x r).toNat_lt
            have hb2 : x.toNat / 2 ^ (7 - r) % 2 ≤ 1 := by omega
            obtain ⟨B1, hB1⟩ : ∃ B1, B1 = x.toNat / 2 ^ (7 - r) % 2 := ⟨_, rfl⟩
            rw [← hB1] at hbit1 hb2
            have HB1 := hide hB1
            clear hB1
            go_wp2
            go_region_law (go_simp; go_at_call 57; refine (hbit1.out _).mono ?_; rintro e w4 ⟨rfl, hb4⟩; have hX4 := row_kept hb4 (by have := hlr.out; have := hg0.out; simp; omega) hX; have hc4 := (hb4.cell (p := ⟨w3.heap.size, 1 + q, none⟩) (by exact hlr.out)).trans hc; have hf4 := (hb4.frozen (p := ⟨w3.heap.size, 1 + q, none⟩) (by exact hlr.out)).trans hf; have hcur4 := hide (row_kept hb4 (by exact hlr.out) hcur.out))
            all_goals
              have hnew : (adL v (maskL l j)).toArray.setIfInBounds (1 + q) (.int .u8 ((tb x (r + 1)).toNat : Int)) = (adL v (maskL l (j + 1))).toArray := by
                rw [AdV.set (by rw [length_maskL, hll]), maskL_step l j hqj]
                simp only [← HQ.out, ← HR1.out, ← HXX.out]
              have hres := heap_setCell_same w4 w3.heap.size (1 + q) _ _ (.int .u8 ((tb x (r + 1)).toNat : Int)) hcur4.out
              rw [hnew, ← or_eq x r hr8, ← HB1.out] at hres
              have HRES := hide hres
              have hbb := (hbr.out.trans ((below_undrew' hb4).mono (by have := hlr.out; simp; omega))).trans ((Below.refl w3.heap.size w4).setCell (p := ⟨w3.heap.size, 1 + q, none⟩) (Nat.le_refl _) (.int .u8 (bits BinOp.or IntKind.u8 (↑(tb x r).toNat) (IntKind.u8.wrap (↑B1 * 2 ^ (7 - r))))))
              have HBB := hide hbb
              have HLL : Hid (w3.heap.size < (w4.setCell { block := w3.heap.size, off := 1 + q } (Value.int IntKind.u8 (bits BinOp.or IntKind.u8 (↑(tb x r).toNat) (IntKind.u8.wrap (↑B1 * 2 ^ (7 - r)))))).heap.size) := hide (by
                have h1 : w3.heap.size < wr.heap.size := hlr.out
                have h2 : wr.drew.heap.size ≤ w4.heap.size := hb4.size
                have h3 : wr.drew.heap.size = wr.heap.size := rfl
                have h4 := ((Below.refl w3.heap.size w4).setCell (p := ⟨w3.heap.size, 1 + q, none⟩) (Nat.le_refl _) (.int .u8 (bits BinOp.or IntKind.u8 (↑(tb x r).toNat) (IntKind.u8.wrap (↑B1 * 2 ^ (7 - r)))))).size
                omega)
              clear hres hbb hnew
              go_wp2
              go_roundw
              case rel => exact ⟨j + 1, by omega, by go_num, HRES.out, HBB.out, HLL.out⟩
              case measure => simp [intOf]; omega
          · obtain rfl : j = k := by omega
            have hY : AdV (adL v (maskL l j)).toArray v (maskL l j) := AdV.mk' (by rw [length_maskL, hll])
            obtain ⟨Y, hYY⟩ : ∃ Y, Y = (adL v (maskL l j)).toArray := ⟨_, rfl⟩
            have hcu := hcur.out
            rw [← hYY] at hY hcu
            have hYs := hY.size
            have hYr := hY.x0
            have hYo : allOne Y = true := hY.one
            have h2r := row_kept hbr.out (by have := hg0.out; omega) H23.out
            have HB2 := hide (HB3.out.trans (hbr.out.mono (by have := hg0.out; omega)))
            clear hYY hcur
            go_wp2
            refine bodyPost_ret (results_cell_tmp (fn := Try.f25) Try.results25 _ _ (w.heap.size + 1) 25 Y (0, 0) _ rfl (setRow_heap wr _ _ _ _ _ h2r) Try.underlying25 rfl (by rw [hYs]; exact info_ad)) rfl ⟨⟨Y, ?_, ?_⟩, below_setRow HB2.out (by omega) _⟩
            · rw [mask_yes HOK.out]; rfl
            · rw [mask_yesV HOK.out, mask_yesB HOK.out]; exact hY
end Go.Proofs.Ytmhoedbhfaocjab
