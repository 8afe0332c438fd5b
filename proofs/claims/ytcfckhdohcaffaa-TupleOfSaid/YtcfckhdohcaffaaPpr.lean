/-
  The walk of the document's own Parse of whatever bytes.
-/
import Derived.Test.YtcfckhdohcaffaaPsx
namespace Go.Proofs.Ytcfckhdohcaffaa
open Go.RowKit
attribute [local go_sem ↓] exec_span exec_put exec_build heap_alloc_new heap_old
attribute [local go_sem] spanQ_ptr spanC_some heap_of_drew heap_of_drewN rs_arr rs_ad rs_ip rs_rip putAt_ptr putOk_ptr oldOk_some World.setRow_alloc_new
set_option maxRecDepth 100000
set_option linter.unusedVariables false
set_option linter.unusedSimpArgs false

set_option maxHeartbeats 4000000 in
theorem refparseH_any (w : World) (B : Nat) (A : Option Addr) (l : List UInt8) (c : Nat) (hlc : l.length ≤ c) (hn : l.length ≤ 140737488355328) (hb : Byt w B A l) (hB : B ≤ w.heap.size) :
    Calls Try.prog 41 #[.slice A l.length c] w fun e w' => PkA w l e w' := by
  obtain ⟨Z, hZ⟩ : ∃ Z, Z = (ipL (nIp 0 0 0 0 false)).toArray := ⟨_, rfl⟩
  have hbl0 := built_noneRI
  have hr1 : (w.alloc (.cells (ipL (nIp 0 0 0 0 false)).toArray 27)).heap[w.heap.size]? = some (.cells Z 27 (0, 0)) := by rw [hZ]; exact heap_alloc_new w _
  have hz1 : w.heap.size < (w.alloc (.cells (ipL (nIp 0 0 0 0 false)).toArray 27)).heap.size := by simp
  have hb1' : Below w.heap.size w (w.alloc (.cells (ipL (nIp 0 0 0 0 false)).toArray 27)) := (Below.refl _ _).alloc (Nat.le_refl _) _
  have hb1 : Byt (w.alloc (.cells (ipL (nIp 0 0 0 0 false)).toArray 27)) B A l := hb.keep fun p hp => hb1'.cell (by omega)
  have hB1 : B ≤ (w.alloc (.cells (ipL (nIp 0 0 0 0 false)).toArray 27)).heap.size := by simp; omega
  rw [← hZ] at hbl0
  have hZs : Z.size = 43 := by rw [hZ]; exact (nIp_ok 0 0 0 0 false).size
  have hZo : allOne Z = true := by rw [hZ]; exact (nIp_ok 0 0 0 0 false).one
  have HZ := hide hZ
  have Hz1 := hide hz1
  clear hZ hz1
  by_cases hnil : l.length = 0
  · have HE : Hid (pkE l = 10) := hide (by unfold pkE; rw [if_pos hnil])
    have HB1 := hide hb1'
    rw [hnil]
    clear hnil hb hb1' hb1 hB1 hlc hn
    go_enter Try.func41, Try.ntmps41
    generalize hW1 : w.alloc (.cells (ipL (nIp 0 0 0 0 false)).toArray 27) = W1 at HB1 hr1 Hz1
    have HW : Hid (w.alloc (.cells (ipL (nIp 0 0 0 0 false)).toArray 27) = W1) := hide hW1
    clear hW1
    go_upto_region 1 with (fail)
    change Code.wp _ _ _ _ (w.alloc (.cells (ipL (nIp 0 0 0 0 false)).toArray 27))
    rw [HW.out]
    go_wp2
    have hrow := setRow_heap W1 w.heap.size Z Z _ _ hr1
    refine bodyPost_ret (results_cell_tmp (fn := Try.f41) Try.results41 _ _ w.heap.size 27 Z (0, 0) _ rfl hrow Try.underlying27 rfl (by rw [hZs]; exact info_rip)) rfl ?_
    exact ⟨Z, by rw [HE.out]; rfl, below_setRow HB1.out (Nat.le_refl _) _, fun _ => HZ.out, fun h => by rw [HE.out] at h; cases h⟩
  · obtain ⟨x, hx⟩ : ∃ x, x = l.getD 0 0 := ⟨_, rfl⟩
    have hx255 : x.toNat ≤ 255 := by have := x.toNat_lt; omega
    obtain ⟨bb, off, hA, hbB, hcell⟩ := hb (by omega)
    have hcx : (w.alloc (.cells (ipL (nIp 0 0 0 0 false)).toArray 27)).cell? ⟨bb, off, none⟩ = some (.int .u8 (x.toNat : Int)) := by
      have h1 := hcell 0 (by omega)
      rw [Nat.add_zero] at h1
      rw [hb1'.cell (show bb < w.heap.size by omega), h1, hx]
      congr 3
      rw [List.getD_eq_getElem?_getD, List.getElem?_eq_getElem (show 0 < l.length by omega)]; rfl
    have hlp : (0 : Int) < (l.length : Int) := by omega
    have hl0 : ((l.length : Int) == 0) = false := by
      have h0 : ¬ ((l.length : Int) = 0) := by omega
      exact beq_false_of_ne h0
    have HB1 := hide hb1'
    have HX := hide hx
    clear hb1' hcell
    subst hA
    go_enter Try.func41, Try.ntmps41
    generalize hW1 : w.alloc (.cells (ipL (nIp 0 0 0 0 false)).toArray 27) = W1 at HB1 hr1 Hz1 hb1 hB1 hcx
    have HW : Hid (w.alloc (.cells (ipL (nIp 0 0 0 0 false)).toArray 27) = W1) := hide hW1
    clear hW1
    go_upto_region 1 with (fail)
    change Code.wp _ _ _ _ (w.alloc (.cells (ipL (nIp 0 0 0 0 false)).toArray 27))
    rw [HW.out]
    obtain ⟨v, hv⟩ : ∃ v, v = x.toNat / 16 := ⟨_, rfl⟩
    have hvx : (x.toNat : Int) / 16 = (v : Int) := by omega
    have hv16 : v < 16 := by omega
    have HV : Hid ((l.getD 0 0).toNat / 16 = v) := hide (by rw [← HX.out, hv])
    clear hv hx
    by_cases h4 : v = 4
    · subst h4
      go_wp2_with fail
      refine (reffour_any W1 B _ c l hlc hn hb1 hB1).mono ?_
      rintro e w2 ⟨X, rfl, hb2, hx0, hx1⟩
      have hr2 : w2.heap[w.heap.size]? = some (.cells Z 27 (0, 0)) := (hb2.block _ Hz1.out).trans hr1
      have hX : X.size = 43 ∧ allOne X = true := by
        by_cases h0 : p4E l = 0
        · obtain ⟨ao, co, ad, cd, hv, -⟩ := hx1 h0
          exact ⟨hv.size, hv.one⟩
        · rw [hx0 h0]; exact ⟨(nIp_ok 0 0 0 0 false).size, (nIp_ok 0 0 0 0 false).one⟩
      obtain ⟨hXs, hXo⟩ := hX
      have HB2 := hide hb2
      have HX0 := hide hx0
      have HX1 := hide hx1
      have HE : Hid (pkE l = p4E l) := hide (by unfold pkE; rw [if_neg hnil, if_pos HV.out])
      clear hb2 hx0 hx1
      go_wp2
      have hrow := setRow_heap w2 w.heap.size Z X _ _ hr2
      refine bodyPost_ret (results_cell_tmp (fn := Try.f41) Try.results41 _ _ w.heap.size 27 X (0, 0) _ rfl hrow Try.underlying27 rfl (by rw [hXs]; exact info_rip)) rfl ?_
      have hgs := setRow_grown w2 w.heap.size X
      have hzs : (w2.setRow w.heap.size X).heap.size = w2.heap.size := size_setRow _ _ _
      refine ⟨X, by rw [HE.out]; rfl, below_setRow (HB1.out.trans (HB2.out.mono HB1.out.size)) (Nat.le_refl _) _, fun h => HX0.out (by rw [← HE.out]; exact h), fun h => ?_⟩
      have h0 := HX1.out (by rw [← HE.out]; exact h)
      obtain ⟨ao, co, ad, cd, h1, h2, h3⟩ := h0
      exact .inl ⟨HV.out, HE.out.symm.trans h, ao, co, ad, cd, h1, h2.row Hz1.out X, h3.row Hz1.out X⟩
    · by_cases h6 : v = 6
      · subst h6
        go_wp2_with fail
        refine (refsix_any W1 B _ c l hlc hn hb1 hB1).mono ?_
        rintro e w2 ⟨X, rfl, hb2, hx0, hx1⟩
        have hr2 : w2.heap[w.heap.size]? = some (.cells Z 27 (0, 0)) := (hb2.block _ Hz1.out).trans hr1
        have hX : X.size = 43 ∧ allOne X = true := by
          by_cases h0 : p6E l = 0
          · obtain ⟨ad, cd, hv, -⟩ := hx1 h0
            exact ⟨hv.size, hv.one⟩
          · rw [hx0 h0]; exact ⟨(nIp_ok 0 0 0 0 false).size, (nIp_ok 0 0 0 0 false).one⟩
        obtain ⟨hXs, hXo⟩ := hX
        have HB2 := hide hb2
        have HX0 := hide hx0
        have HX1 := hide hx1
        have HE : Hid (pkE l = p6E l) := hide (by unfold pkE; rw [if_neg hnil, if_neg (by rw [HV.out]; exact h4), if_pos HV.out])
        clear hb2 hx0 hx1
        go_wp2
        have hrow := setRow_heap w2 w.heap.size Z X _ _ hr2
        refine bodyPost_ret (results_cell_tmp (fn := Try.f41) Try.results41 _ _ w.heap.size 27 X (0, 0) _ rfl hrow Try.underlying27 rfl (by rw [hXs]; exact info_rip)) rfl ?_
        have hgs := setRow_grown w2 w.heap.size X
        have hzs : (w2.setRow w.heap.size X).heap.size = w2.heap.size := size_setRow _ _ _
        refine ⟨X, by rw [HE.out]; rfl, below_setRow (HB1.out.trans (HB2.out.mono HB1.out.size)) (Nat.le_refl _) _, fun h => HX0.out (by rw [← HE.out]; exact h), fun h => ?_⟩
        have h0 := HX1.out (by rw [← HE.out]; exact h)
        obtain ⟨ad, cd, h1, h2⟩ := h0
        exact .inr ⟨HV.out, HE.out.symm.trans h, ad, cd, h1, h2.row Hz1.out X⟩
      · have HE : Hid (pkE l = 13) := hide (by unfold pkE; rw [if_neg hnil, if_neg (by rw [HV.out]; exact h4), if_neg (by rw [HV.out]; exact h6)])
        have hv4 : ((v : Int) == 4) = false := by simp; omega
        have hv6 : ((v : Int) == 6) = false := by simp; omega
        go_wp2
        have hrow := setRow_heap W1 w.heap.size Z Z _ _ hr1
        refine bodyPost_ret (results_cell_tmp (fn := Try.f41) Try.results41 _ _ w.heap.size 27 Z (0, 0) _ rfl hrow Try.underlying27 rfl (by rw [hZs]; exact info_rip)) rfl ?_
        exact ⟨Z, by rw [HE.out]; rfl, below_setRow HB1.out (Nat.le_refl _) _, fun _ => HZ.out, fun h => by rw [HE.out] at h; cases h⟩
end Go.Proofs.Ytcfckhdohcaffaa
