/-
  The walk of the document's own Parse of a packet of six.
-/
import Derived.Test.YtcfckhdohcaffaaPb
import Derived.Deep.CutRange
import Derived.Deep.RegionLaw
namespace Go.Proofs.Ytcfckhdohcaffaa
open Go.RowKit
attribute [local go_sem ↓] exec_span exec_put exec_build heap_alloc_new heap_old
attribute [local go_sem] spanQ_ptr spanC_some heap_of_drew heap_of_drewN rs_arr rs_ad rs_ip rs_rip putAt_ptr putOk_ptr oldOk_some World.setRow_alloc_new
set_option maxRecDepth 100000
set_option linter.unusedVariables false
set_option linter.unusedSimpArgs false

theorem built_xA (a b : Int) (b0 b1 b2 b3 b4 b5 b6 b7 b8 b9 b10 b11 b12 b13 b14 b15 c0 c1 c2 c3 c4 c5 c6 c7 c8 c9 c10 c11 c12 c13 c14 c15 : UInt8) :
    Try.prog.built 27 [(0, .bool true), (1, .agg (adL true [b0, b1, b2, b3, b4, b5, b6, b7, b8, b9, b10, b11, b12, b13, b14, b15]).toArray), (2, .agg (adL true [c0, c1, c2, c3, c4, c5, c6, c7, c8, c9, c10, c11, c12, c13, c14, c15]).toArray), (3, .int .i64 a), (4, .int .i64 b)] = some (ipL (mIp true true a b 0 0 [b0, b1, b2, b3, b4, b5, b6, b7, b8, b9, b10, b11, b12, b13, b14, b15] [c0, c1, c2, c3, c4, c5, c6, c7, c8, c9, c10, c11, c12, c13, c14, c15])).toArray := by kernel_rfl
theorem built_x6 (a b : Int) (S D : List UInt8) (ls : S.length = 16) (ld : D.length = 16) : Try.prog.built 27 [(0, .bool true), (1, .agg (adL true S).toArray), (2, .agg (adL true D).toArray), (3, .int .i64 a), (4, .int .i64 b)] = some (ipL (mIp true true a b 0 0 S D)).toArray := by
  match S, D, ls, ld with
  | [_, _, _, _, _, _, _, _, _, _, _, _, _, _, _, _], [_, _, _, _, _, _, _, _, _, _, _, _, _, _, _, _], _, _ => exact built_xA _ _ _ _ _ _ _ _ _ _ _ _ _ _ _ _ _ _ _ _ _ _ _ _ _ _ _ _ _ _ _ _ _ _
theorem nmB_quad {l : List UInt8} (h : 3 < l.length) : nmB l 0 4 = nmB l 0 1 * 16777216 + nmB l 1 1 * 65536 + nmB l 2 2 := by
  rw [nmB_at4 (show 0 < l.length by omega), nmB_at4 (show 1 < l.length by omega), nmB_pair (k := 2) h]
  unfold nmB
  rw [List.drop_eq_getElem_cons (show 0 < l.length by omega), List.drop_eq_getElem_cons (show 0 + 1 < l.length by omega), List.drop_eq_getElem_cons (show 0 + 1 + 1 < l.length by omega), List.drop_eq_getElem_cons (show 0 + 1 + 1 + 1 < l.length by omega)]
  show numS [l[0], l[1], l[2], l[3]] = _
  simp [numS]
  omega
/-- a number of a packet set. -/
theorem set_tos {w : World} {P : Nat} {X : Array Value} {h : Ip} (x : IpV X h) {t : TypeId} (r : w.heap[P]? = some (.cells X t (0, 0))) (T : Int) :
    (w.setCell ⟨P, 37, none⟩ (.int .i64 T)).heap[P]? = some (.cells (ipL { h with tos := T }).toArray t (0, 0)) := by
  have h1 := heap_setCell_same w P 37 _ _ (.int .i64 T) r
  rw [h1, x.eq]
  congr 2
  rw [List.setIfInBounds_toArray]
  congr 1
  have e1 := lenI_adL (v := h.sv) x.ls
  have e2 := lenI_adL (v := h.dv) x.ld
  simp only [ipL]
  simp [List.set_append, e1, e2]
  rfl
theorem set_lab {w : World} {P : Nat} {X : Array Value} {h : Ip} (x : IpV X h) {t : TypeId} (r : w.heap[P]? = some (.cells X t (0, 0))) (T : Int) :
    (w.setCell ⟨P, 40, none⟩ (.int .i64 T)).heap[P]? = some (.cells (ipL { h with lab := T }).toArray t (0, 0)) := by
  have h1 := heap_setCell_same w P 40 _ _ (.int .i64 T) r
  rw [h1, x.eq]
  congr 2
  rw [List.setIfInBounds_toArray]
  congr 1
  have e1 := lenI_adL (v := h.sv) x.ls
  have e2 := lenI_adL (v := h.dv) x.ld
  simp only [ipL]
  simp [List.set_append, e1, e2]
  rfl

set_option maxHeartbeats 8000000 in
theorem refsix_any (w : World) (B : Nat) (A : Option Addr) (c : Nat) (l : List UInt8) (hlc : l.length ≤ c) (hn : l.length ≤ 140737488355328) (hb : Byt w B A l) (hB : B ≤ w.heap.size) :
    Calls Try.prog 67 #[.slice A l.length c] w fun e w' => P6 w l e w' := by
  obtain ⟨Z, hZ⟩ : ∃ Z, Z = (ipL (nIp 0 0 0 0 false)).toArray := ⟨_, rfl⟩
  have hbn := built_noneRI
  rw [← hZ] at hbn
  have VZ : IpV Z (nIp 0 0 0 0 false) := by rw [hZ]; exact nIp_ok _ _ _ _ _
  have hZs : Z.size = 43 := VZ.size
  have hZo : allOne Z = true := VZ.one
  have HZE := hide hZ
  obtain ⟨W, hW⟩ : ∃ W, w.alloc (.cells Z 27) = W := ⟨_, rfl⟩
  have zr : W.heap[w.heap.size]? = some (.cells Z 27 (0, 0)) := by rw [← hW]; exact heap_alloc_new w _
  have hbW : Below w.heap.size w W := by rw [← hW]; exact (Below.refl _ _).alloc (Nat.le_refl _) _
  have HB := hide hbW
  have HZR := hide zr
  have HW := hide hW
  have HM := hide hn
  have HLC := hide hlc
  have HBB := hide hB
  have HBY := hide hb
  have hWs : Hid (W.heap.size = w.heap.size + 1) := hide (by rw [← hW]; exact World.size_alloc _ _)
  have HK : Hid (∀ W1 : World, Below W.heap.size W W1 → W1.heap[w.heap.size]? = some (.cells Z 27 (0, 0)) ∧ Below w.heap.size w W1 ∧ Byt W1 B A l ∧ B ≤ W1.heap.size) := hide (fun W1 b1 => by
    have h1 := HB.out.trans (b1.mono HB.out.size)
    exact ⟨(b1.block _ (by have := hWs.out; omega)).trans HZR.out, h1, HBY.out.below (h1.mono HBB.out), Nat.le_trans HBB.out h1.size⟩)
  by_cases h40 : l.length < 40
  · have hE : Hid (p6E l = 10) := hide (by unfold p6E; rw [if_pos h40])
    have hlt : (l.length : Int) < 40 := by omega
    clear hZ hW hbW hlc hn hb hB VZ
    go_enter Try.func67, Try.ntmps67
    go_upto_region 1 with (fail)
    change Code.wp _ _ _ _ (w.alloc (.cells (ipL (nIp 0 0 0 0 false)).toArray 27))
    rw [← HZE.out, HW.out]
    go_wp2_with fail
    have hrow := setRow_heap W w.heap.size Z Z _ _ zr
    refine bodyPost_ret (results_cell_tmp (fn := Try.f67) Try.results67 _ _ w.heap.size 27 Z (0, 0) _ rfl hrow Try.underlying27 rfl (by rw [hZs]; exact info_rip)) rfl ?_
    exact p6_errZ HZE.out hE.out (by decide) (below_setRow HB.out (Nat.le_refl _) _)
  · have hlt : ¬ (l.length : Int) < 40 := by omega
    have hEE : Hid (p6E l = if l.length - 40 < nmB l 4 2 then 10 else if nmB l 4 2 < l.length - 40 then 11 else 0) := hide (by unfold p6E; rw [if_neg h40])
    obtain ⟨b, off, hA, hbB, hcell⟩ := hb (by omega)
    subst hA
    have HC : Hid (∀ W1 : World, Below w.heap.size w W1 → ∀ i (hi : i < l.length), W1.cell? ⟨b, off + i, none⟩ = some (.int .u8 ((nmB l i 1 : Nat) : Int))) := hide (fun W1 b1 i hi => by
      rw [nmB_at4 hi]
      exact (b1.cell (p := ⟨b, off + i, none⟩) (by show b < _; omega)).trans (hcell i hi))
    have KTWO : Hid (∀ (W1 : World), Below W.heap.size W W1 → ∀ k, k + 1 < l.length → k ≤ 100 → Calls Try.prog 99 #[.slice (some ⟨b, off, none⟩) l.length c, .int .i64 (k : Int)] W1 fun e w' => e = .returned (.int .i64 ((nmB l k 2 : Nat) : Int)) ∧ Below W1.heap.size W1 w') := hide (fun W1 b1 k hk hk2 => two4_any W1 B _ c l k hk hk2 HM.out (HK.out W1 b1).2.2.1)
    have KTAK : Hid (∀ (W1 : World), Below W.heap.size W W1 → ∀ k, k + 16 ≤ l.length → k ≤ 100 → Calls Try.prog 100 #[.slice (some ⟨b, off, none⟩) l.length c, .int .i64 (k : Int), .int .i64 ((16 : Nat) : Int)] W1 fun e w' => (∃ Y, e = .returned (.agg Y) ∧ AdV Y true (pad16 ((l.drop k).take 16))) ∧ Below W1.heap.size W1 w') := hide (fun W1 b1 k hk hk2 => taken4_any W1 B _ c l k 16 true (.inr ⟨rfl, rfl⟩) hk HLC.out hk2 HM.out (HK.out W1 b1).2.2.1 (HK.out W1 b1).2.2.2)
    have KT4 : Hid (∀ (W1 : World), Below W.heap.size W W1 → Calls Try.prog 99 #[.slice (some ⟨b, off, none⟩) l.length c, .int .i64 4] W1 fun e w' => e = .returned (.int .i64 ((nmB l 4 2 : Nat) : Int)) ∧ Below W1.heap.size W1 w') := hide (fun W1 b1 => KTWO.out W1 b1 4 (by omega) (by decide))
    have KT2 : Hid (∀ (W1 : World), Below W.heap.size W W1 → Calls Try.prog 99 #[.slice (some ⟨b, off, none⟩) l.length c, .int .i64 2] W1 fun e w' => e = .returned (.int .i64 ((nmB l 2 2 : Nat) : Int)) ∧ Below W1.heap.size W1 w') := hide (fun W1 b1 => KTWO.out W1 b1 2 (by omega) (by decide))
    have KA : Hid (∀ (W1 : World), Below W.heap.size W W1 → Calls Try.prog 100 #[.slice (some ⟨b, off, none⟩) l.length c, .int .i64 8, .int .i64 16] W1 fun e w' => (∃ Y, e = .returned (.agg Y) ∧ AdV Y true (pad16 ((l.drop 8).take 16))) ∧ Below W1.heap.size W1 w') := hide (fun W1 b1 => KTAK.out W1 b1 8 (by omega) (by decide))
    have KB : Hid (∀ (W1 : World), Below W.heap.size W W1 → Calls Try.prog 100 #[.slice (some ⟨b, off, none⟩) l.length c, .int .i64 24, .int .i64 16] W1 fun e w' => (∃ Y, e = .returned (.agg Y) ∧ AdV Y true (pad16 ((l.drop 24).take 16))) ∧ Below W1.heap.size W1 w') := hide (fun W1 b1 => KTAK.out W1 b1 24 (by omega) (by decide))
    obtain ⟨N, hN⟩ : ∃ N, N = l.length := ⟨_, rfl⟩
    obtain ⟨n4, hn4⟩ : ∃ n, n = nmB l 4 2 := ⟨_, rfl⟩
    obtain ⟨n2, hn2⟩ : ∃ n, n = nmB l 2 2 := ⟨_, rfl⟩
    obtain ⟨sS, hsS⟩ : ∃ x, x = pad16 ((l.drop 8).take 16) := ⟨_, rfl⟩
    obtain ⟨sD, hsD⟩ : ∃ x, x = pad16 ((l.drop 24).take 16) := ⟨_, rfl⟩
    obtain ⟨b0, hb0⟩ : ∃ n, n = nmB l 0 1 := ⟨_, rfl⟩
    obtain ⟨b1', hb1'⟩ : ∃ n, n = nmB l 1 1 := ⟨_, rfl⟩
    obtain ⟨p6, hp6⟩ : ∃ n, n = nmB l 6 1 := ⟨_, rfl⟩
    obtain ⟨p7, hp7⟩ : ∃ n, n = nmB l 7 1 := ⟨_, rfl⟩
    have l0 : b0 < 256 := by rw [hb0, nmB_at4 (show 0 < l.length by omega)]; exact UInt8.toNat_lt _
    have l1 : b1' < 256 := by rw [hb1', nmB_at4 (show 1 < l.length by omega)]; exact UInt8.toNat_lt _
    have l6 : p6 < 256 := by rw [hp6, nmB_at4 (show 6 < l.length by omega)]; exact UInt8.toNat_lt _
    have l7 : p7 < 256 := by rw [hp7, nmB_at4 (show 7 < l.length by omega)]; exact UInt8.toNat_lt _
    have l2 : n2 < 65536 := by rw [hn2]; have := nmB_two l 2; omega
    have hSl : sS.length = 16 := by rw [hsS]; exact len_pad16 (by rw [List.length_take]; omega)
    have hDl : sD.length = 16 := by rw [hsD]; exact len_pad16 (by rw [List.length_take]; omega)
    have hquad := nmB_quad (l := l) (by omega)
    rw [← hb0, ← hb1', ← hn2] at hquad
    have HC4 : Hid (∀ W1 : World, Below W.heap.size W W1 → W1.cell? ⟨b, off, none⟩ = some (.int .u8 (b0 : Int)) ∧ W1.cell? ⟨b, off + 1, none⟩ = some (.int .u8 (b1' : Int)) ∧ W1.cell? ⟨b, off + 6, none⟩ = some (.int .u8 (p6 : Int)) ∧ W1.cell? ⟨b, off + 7, none⟩ = some (.int .u8 (p7 : Int))) := hide (fun W1 h1' => by
      have h1 := (HK.out W1 h1').2.1
      rw [hb0, hb1', hp6, hp7]
      exact ⟨HC.out W1 h1 0 (by omega), HC.out W1 h1 1 (by omega), HC.out W1 h1 6 (by omega), HC.out W1 h1 7 (by omega)⟩)
    have HPP := hide (And.intro hp6 (And.intro hp7 (And.intro hsS hsD)))
    have HQD := hide hquad
    have HN := hide (And.intro hN hn4)
    have HNN : Hid (40 ≤ N) := hide (by omega)
    rw [← hn4, ← hN] at hEE
    rw [← hn4] at KT4
    rw [← hn2] at KT2
    rw [← hsS] at KA
    rw [← hsD] at KB
    rw [← hN] at hlt KT2 KT4 KA KB ⊢
    have hw40 : IntKind.i64.wrap ((N : Int) - 40) = (N : Int) - 40 := IntWalk.i64_in _ (by have := HM.out; omega)
    have v6 : IntKind.i64.wrap (p6 : Int) = (p6 : Int) := IntWalk.i64_in _ (by omega)
    have v7 : IntKind.i64.wrap (p7 : Int) = (p7 : Int) := IntWalk.i64_in _ (by omega)
    obtain ⟨q0, hq0⟩ : ∃ q, q = b0 % 16 := ⟨_, rfl⟩
    obtain ⟨q1, hq1⟩ : ∃ q, q = b1' % 16 := ⟨_, rfl⟩
    obtain ⟨h1, hh1⟩ : ∃ q, q = b1' / 16 := ⟨_, rfl⟩
    have m0 : (b0 : Int) % 16 = (q0 : Int) := by omega
    have m1 : (b1' : Int) % 16 = (q1 : Int) := by omega
    have d1 : (b1' : Int) / 16 = (h1 : Int) := by omega
    have m0t : (b0 : Int).tmod 16 = (q0 : Int) := by rw [Int.tmod_eq_emod_of_nonneg (by omega)]; exact m0
    have m1t : (b1' : Int).tmod 16 = (q1 : Int) := by rw [Int.tmod_eq_emod_of_nonneg (by omega)]; exact m1
    have w0 : IntKind.u8.wrap (q0 : Int) = (q0 : Int) := IntWalk.u8_in _ (by omega)
    have w0' : IntKind.i64.wrap (q0 : Int) = (q0 : Int) := IntWalk.i64_in _ (by omega)
    have w1 : IntKind.u8.wrap (q1 : Int) = (q1 : Int) := IntWalk.u8_in _ (by omega)
    have w1' : IntKind.i64.wrap (q1 : Int) = (q1 : Int) := IntWalk.i64_in _ (by omega)
    have w2 : IntKind.u8.wrap (h1 : Int) = (h1 : Int) := IntWalk.u8_in _ (by omega)
    have w2' : IntKind.i64.wrap (h1 : Int) = (h1 : Int) := IntWalk.i64_in _ (by omega)
    have w3 : IntKind.i64.wrap ((q0 : Int) * 16) = (q0 : Int) * 16 := IntWalk.i64_in _ (by omega)
    have w4 : IntKind.i64.wrap ((q1 : Int) * 65536) = (q1 : Int) * 65536 := IntWalk.i64_in _ (by omega)
    obtain ⟨T, hT⟩ : ∃ q, q = q0 * 16 + h1 := ⟨_, rfl⟩
    obtain ⟨Lb, hLb⟩ : ∃ q, q = q1 * 65536 + n2 := ⟨_, rfl⟩
    have o1 : bits .or .i64 ((q0 : Int) * 16) (h1 : Int) = (T : Int) := by
      have e := i64_or_join 4 (q0 * 16) h1 (by omega) (by omega) (by omega) (by omega)
      rw [hT]
      rw [← e]
      rfl
    have o2 : bits .or .i64 ((q1 : Int) * 65536) (n2 : Int) = (Lb : Int) := by
      have e := i64_or_join 16 (q1 * 65536) n2 (by omega) (by omega) (by omega) (by omega)
      rw [hLb]
      rw [← e]
      rfl
    have HTL : Hid (nmB l 0 4 / 1048576 % 256 = T ∧ nmB l 0 4 % 1048576 = Lb) := hide (by rw [hquad]; omega)
    have hN6 : (6 : Int) < (N : Int) ∧ (7 : Int) < (N : Int) ∧ (1 : Int) < (N : Int) ∧ (0 : Int) < (N : Int) := by omega
    obtain ⟨hN6, hN7, hN1, hN0⟩ := hN6
    have hN0' : 0 < N := by omega
    have hN1' : 1 < N := by omega
    have hN6' : 6 < N := by omega
    have hN7' : 7 < N := by omega
    have HSD := hide (And.intro hSl hDl)
    clear hZ hW hbW hlc hn hb hB VZ h40 hcell hN hn4 hn2 hsS hsD hb0 hb1' hp6 hp7 hquad hbB l0 l1 l6 l7 l2 hq0 hq1 hh1 hT hLb hSl hDl KTWO KTAK
    go_enter Try.func67, Try.ntmps67
    go_upto_region 1 with (fail)
    change Code.wp _ _ _ _ (w.alloc (.cells (ipL (nIp 0 0 0 0 false)).toArray 27))
    rw [← HZE.out, HW.out]
    go_wp2_with fail
    refine (KT4.out W (Below.refl _ _)).mono ?_
    rintro e W1 ⟨rfl, b1⟩
    have B1 : Hid (Below W.heap.size W W1) := hide b1
    have zr := (HK.out W1 b1).1
    have HBW1 := hide (HK.out W1 b1).2.1
    clear b1
    dsimp only
    by_cases hlt4 : N - 40 < n4
    · have hE : Hid (p6E l = 10) := hide (by rw [hEE.out, if_pos hlt4])
      have hb1 : (N : Int) - 40 < (n4 : Int) := by have := HNN.out; omega
      go_wp2_with fail
      have hrow := setRow_heap W1 w.heap.size Z Z _ _ zr
      refine bodyPost_ret (results_cell_tmp (fn := Try.f67) Try.results67 _ _ w.heap.size 27 Z (0, 0) _ rfl hrow Try.underlying27 rfl (by rw [hZs]; exact info_rip)) rfl ?_
      exact p6_errZ HZE.out hE.out (by decide) (below_setRow HBW1.out (Nat.le_refl _) _)
    have hb1 : ¬ (N : Int) - 40 < (n4 : Int) := by have := HNN.out; omega
    go_wp2_with fail
    refine (KT4.out W1 B1.out).mono ?_
    rintro e W2 ⟨rfl, b2⟩
    have B2 : Hid (Below W.heap.size W W2) := hide (B1.out.trans (b2.mono B1.out.size))
    have zr := (HK.out W2 B2.out).1
    have HBW2 := hide (HK.out W2 B2.out).2.1
    clear b2 KT4 B1 HBW1
    dsimp only
    by_cases hgt4 : n4 < N - 40
    · have hE : Hid (p6E l = 11) := hide (by rw [hEE.out, if_neg hlt4, if_pos hgt4])
      have hb2 : (n4 : Int) < (N : Int) - 40 := by have := HNN.out; omega
      go_wp2_with fail
      have hrow := setRow_heap W2 w.heap.size Z Z _ _ zr
      refine bodyPost_ret (results_cell_tmp (fn := Try.f67) Try.results67 _ _ w.heap.size 27 Z (0, 0) _ rfl hrow Try.underlying27 rfl (by rw [hZs]; exact info_rip)) rfl ?_
      exact p6_errZ HZE.out hE.out (by decide) (below_setRow HBW2.out (Nat.le_refl _) _)
    have hb2 : ¬ (n4 : Int) < (N : Int) - 40 := by have := HNN.out; omega
    have hE : Hid (p6E l = 0) := hide (by rw [hEE.out, if_neg hlt4, if_neg hgt4])
    clear hlt4 hgt4 hEE
    go_upto_region 5 with (fail)
    obtain ⟨d0, d1', d6, d7⟩ := HC4.out W2 B2.out
    obtain ⟨e0, e1, e6, e7⟩ := HC4.out W2.drew B2.out.drew
    go_cut [4] from 24 to 37 (fun p wx => FourQ W wx p (mIp true true (p6 : Int) (p7 : Int) 0 0 sS sD))
    case first =>
      obtain ⟨Yp, hYp⟩ : ∃ Y, Y = (ipL (mIp true true (p6 : Int) (p7 : Int) 0 0 sS sD)).toArray := ⟨_, rfl⟩
      have VP : IpV Yp (mIp true true (p6 : Int) (p7 : Int) 0 0 sS sD) := ⟨hYp, HSD.out.1, HSD.out.2⟩
      have hYps : Yp.size = 43 := VP.size
      have hYpo : allOne Yp = true := VP.one
      have HVP := hide VP
      have HBU : Hid (∀ Y1 Y2, AdV Y1 true sS → AdV Y2 true sD → Try.prog.built 27 [(0, .bool true), (1, .agg Y1), (2, .agg Y2), (3, .int .i64 (p6 : Int)), (4, .int .i64 (p7 : Int))] = some Yp) := hide (fun Y1 Y2 y1 y2 => by rw [y1.eq, y2.eq, hYp]; exact built_x6 _ _ _ _ HSD.out.1 HSD.out.2)
      clear hYp VP
      go_region_held3 (fun w' => w'.cell? ⟨b, off + 6, none⟩ = some (.int .u8 (p6 : Int)) ∧ w'.cell? ⟨b, off + 7, none⟩ = some (.int .u8 (p7 : Int)))
        (first | exact ⟨d6, d7⟩ | exact ⟨e6, e7⟩ | exact ⟨f6, f7⟩ | exact ⟨g6, g7⟩ | exact (HC4.out _ (B4.out.alloc B4.out.size _)).2.2 | exact (HC4.out _ (B3.out.alloc B3.out.size _)).2.2 | exact (HC4.out _ (B2.out.drew.alloc B2.out.drew.size _)).2.2 | exact (HC4.out _ (B2.out.alloc B2.out.size _).drew).2.2 | exact (HC4.out _ (B2.out.alloc B2.out.size _)).2.2 | exact (HC4.out _ (below_setRow B4.out B3.out.size _)).2.2 | exact (HC4.out _ (below_setRow B4.out B2.out.size _)).2.2 | fail)
        (first
          | (go_at_call 100; (first | with_reducible refine (KA.out _ B2.out.drew).mono ?_ | with_reducible refine (KA.out _ (B2.out.alloc B2.out.size _).drew).mono ?_); rintro e w3 ⟨⟨Y1, rfl, y1⟩, b3⟩; have B3 : Hid (Below W.heap.size W w3) := hide (by first | exact B2.out.drew.trans (b3.mono B2.out.drew.size) | exact (B2.out.alloc B2.out.size _).drew.trans (b3.mono (B2.out.alloc B2.out.size _).drew.size)); obtain ⟨f0, f1, f6, f7⟩ := HC4.out w3 B3.out; have HY1 := hide y1; (first | (have rz : w3.heap[W2.heap.size]? = some (.cells Z 27 (0, 0)) := by rw [HZE.out]; exact (b3.block W2.heap.size (by show W2.heap.size < (W2.alloc _).heap.size; rw [World.size_alloc]; exact Nat.lt_succ_self _)).trans (heap_alloc_new W2 _)) | skip); clear b3 y1)
          | (go_at_call 100; (first | with_reducible refine (KB.out _ B3.out).mono ?_ | with_reducible refine (KB.out _ (B3.out.alloc B3.out.size _)).mono ?_); rintro e w4 ⟨⟨Y2, rfl, y2⟩, b4⟩; have B4 : Hid (Below W.heap.size W w4) := hide (by first | exact B3.out.trans (b4.mono B3.out.size) | exact (B3.out.alloc B3.out.size _).trans (b4.mono (B3.out.alloc B3.out.size _).size)); obtain ⟨g0, g1, g6, g7⟩ := HC4.out w4 B4.out; have HY2 := hide y2; have hbu := HBU.out _ _ HY1.out HY2.out; (first | (have rz := (b4.block _ (Array.getElem?_eq_some_iff.1 rz).1).trans rz) | (have rz : w4.heap[w3.heap.size]? = some (.cells Z 27 (0, 0)) := by rw [HZE.out]; exact (b4.block w3.heap.size (by rw [World.size_alloc]; exact Nat.lt_succ_self _)).trans (heap_alloc_new w3 _)) | skip); clear b4 y2)
          | fail)
      all_goals (
        try go_wp2_with fail
        go_meet
        first
          | exact ⟨w4.heap.size, Yp, rfl, heap_alloc_new w4 _, HVP.out, B4.out.alloc B4.out.size _, B4.out.size⟩
          | exact ⟨w3.heap.size, Yp, rfl, setRow_heap w4 _ _ Yp _ _ rz, HVP.out, below_setRow B4.out B3.out.size _, B3.out.size⟩
          | exact ⟨W2.heap.size, Yp, rfl, setRow_heap w4 _ _ Yp _ _ rz, HVP.out, below_setRow B4.out B2.out.size _, B2.out.size⟩
          | fail)
    case rest =>
      obtain ⟨z, Yp, rfl, f1, f2, f3, f4⟩ := hcut
      obtain ⟨W8, hW8⟩ : ∃ W8, W8 = wc := ⟨_, rfl⟩
      rw [← hW8] at f1 f3
      have F : Hid (W8.heap[z]? = some (.cells Yp 27 (0, 0)) ∧ Below W.heap.size W W8 ∧ W.heap.size ≤ z) := hide ⟨f1, f3, f4⟩
      have HVP := hide f2
      rw [← hW8]
      clear hW8 f1 f2 f3 f4 zr d0 d1' d6 d7 e0 e1 e6 e7 KA KB
      go_upto_region 6 with (fail)
      obtain ⟨d0, d1', -, -⟩ := HC4.out W8 F.out.2.1
      obtain ⟨e0, e1, -, -⟩ := HC4.out W8.drew F.out.2.1.drew
      have k37 := (HVP.out.cells F.out.1).c37
      have f37 := frozen_of_row W8 z 37 _ _ F.out.1
      have k37d : W8.drew.cell? ⟨z, 37, none⟩ = some (.int .i64 0) := k37
      have f37d : W8.drew.frozen? ⟨z, 37, none⟩ = false := f37
      have r9 := set_tos HVP.out F.out.1 (T : Int)
      have g9 := grown_set W8 z 37 (.int .i64 (T : Int))
      obtain ⟨W9, hW9⟩ : ∃ W9, (W8.setCell ⟨z, 37, none⟩ (.int .i64 (T : Int))).drew = W9 := ⟨_, rfl⟩
      have r9' : W9.heap[z]? = some (.cells (ipL (mIp true true (p6 : Int) (p7 : Int) (T : Int) 0 sS sD)).toArray 27 (0, 0)) := by rw [← hW9]; exact r9
      have B9 : Hid (Below W.heap.size W W9) := hide (by rw [← hW9]; exact (F.out.2.1.grown g9 F.out.2.1.size (fun i e => by cases e; exact F.out.2.2)).drew)
      have HR9 := hide r9'
      obtain ⟨h0, h1', -, -⟩ := HC4.out W9 B9.out
      clear g9 r9 r9'
      go_region_held3 (fun w' => w'.cell? ⟨b, off, none⟩ = some (.int .u8 (b0 : Int)) ∧ w'.cell? ⟨b, off + 1, none⟩ = some (.int .u8 (b1' : Int)))
        (first | exact ⟨e0, e1⟩ | exact ⟨d0, d1'⟩ | exact ⟨h0, h1'⟩ | fail) (fail)
      all_goals (
        go_upto_region 7 with (fail)
        clear hW9 k37 f37 k37d f37d d0 d1' e0 e1
        have VQ : Hid (IpV (ipL (mIp true true (p6 : Int) (p7 : Int) (T : Int) 0 sS sD)).toArray (mIp true true (p6 : Int) (p7 : Int) (T : Int) 0 sS sD)) := hide ⟨rfl, HSD.out.1, HSD.out.2⟩
        have h1d : W9.drew.cell? ⟨b, off + 1, none⟩ = some (.int .u8 (b1' : Int)) := h1'
        go_region_held3 (fun w' => w'.cell? ⟨b, off + 1, none⟩ = some (.int .u8 (b1' : Int)))
          (first | exact h1' | exact h1d | exact i1 | exact j1 | fail)
          (first
            | (go_at_call 99; (with_reducible refine (KT2.out W9.drew B9.out.drew).mono ?_); rintro e w10 ⟨rfl, b10⟩
               have B10 : Hid (Below W.heap.size W w10) := hide (B9.out.drew.trans (b10.mono B9.out.drew.size))
               have r10 : w10.heap[z]? = some (.cells (ipL (mIp true true (p6 : Int) (p7 : Int) (T : Int) 0 sS sD)).toArray 27 (0, 0)) := (b10.block z (Array.getElem?_eq_some_iff.1 HR9.out).1).trans HR9.out
               have i1 := (HC4.out w10 B10.out).2.1
               have k40 := (VQ.out.cells r10).c40
               have f40 := frozen_of_row w10 z 40 _ _ r10
               have r11 := set_lab VQ.out r10 (Lb : Int)
               have g11 := grown_set w10 z 40 (.int .i64 (Lb : Int))
               obtain ⟨W11, hW11⟩ : ∃ W11, w10.setCell ⟨z, 40, none⟩ (.int .i64 (Lb : Int)) = W11 := ⟨_, rfl⟩
               rw [hW11] at r11 g11
               have B11 : Hid (Below W.heap.size W W11) := hide (B10.out.grown g11 B10.out.size (fun i e => by cases e; exact F.out.2.2))
               have HR11 := hide r11
               have j1 := (HC4.out W11 B11.out).2.1
               clear b10 r10 r11 g11)
            | fail)
        all_goals (
          go_upto_region 8 with (fail)
          clear hW11 k40 f40 i1 j1 h1' h1d
          obtain ⟨Yq, hYq⟩ : ∃ Y, Y = (ipL (mIp true true (p6 : Int) (p7 : Int) (T : Int) (Lb : Int) sS sD)).toArray := ⟨_, rfl⟩
          have r9 : W11.heap[z]? = some (.cells Yq 27 (0, 0)) := by rw [hYq]; exact HR11.out
          have VQ : Hid (IpV Yq (mIp true true (p6 : Int) (p7 : Int) (T : Int) (Lb : Int) sS sD)) := hide ⟨hYq, HSD.out.1, HSD.out.2⟩
          have HY9 := hide (HK.out W11 B11.out).2.2.1
          have r9d : W11.drew.heap[z]? = some (.cells Yq 27 (0, 0)) := r9
          have c42 : W11.drew.cell? ⟨z, 42, none⟩ = some (.slice none 0 0) := (VQ.out.cells r9d).c42
          have hdN : (40 : Int) ≤ (N : Int) := by have := HNN.out; omega
          obtain ⟨L2, hL2⟩ : ∃ L2, L2 = l.drop 40 := ⟨_, rfl⟩
          have hl2 : L2.length = N - 40 := by rw [hL2, List.length_drop, HN.out.1]
          have HL2 := hide (And.intro hL2 hl2)
          have HS2 : Hid (Byt W11.drew B (if c = 40 then some ⟨b, off, none⟩ else some ⟨b, off + 40, none⟩) L2) := hide (by
            have e := HY9.out.drew.sub 40 (N - 40) c HLC.out
            rw [List.take_of_length_le (by rw [List.length_drop]; have := HN.out.1; omega), ← hL2] at e
            rw [Option.map_some, add_none] at e
            exact e)
          have HN2 : Hid ((if c = 40 then (some ⟨b, off, none⟩ : Option Addr) else some ⟨b, off + 40, none⟩) = none → c - 40 = 0) := hide (fun e => by split at e <;> cases e)
          obtain ⟨AY, hAY⟩ : ∃ A, (if c = 40 then (some ⟨b, off, none⟩ : Option Addr) else some ⟨b, off + 40, none⟩) = A := ⟨_, rfl⟩
          rw [hAY] at HS2 HN2
          have HLM2 : Hid (([] : List UInt8).length + L2.length ≤ 140737488355328) := hide (by rw [hl2]; have := HN.out.1; have := HM.out; simp; omega)
          have hz9 : Hid (z < W11.heap.size) := hide (Array.getElem?_eq_some_iff.1 r9).1
          have HR9' := hide r9d
          clear hYq r9 r9d hL2 hl2
          go_wp2_with fail
          go_region_law (refine step_app_bytesP rfl (.tmp 61) (.tmp 63) rfl W11.heap.size (.slice none 0 0) [] L2 B (N - 40) (c - 40) _ rfl rfl HL2.out.2 (OwnB.nil _ _) HS2.out HN2.out HLM2.out (Nat.le_refl _) ?_
                         intro v10 w10 ho10 hg10 ha10
                         have hr10 := (hg10.block z hz9.out (by simp [Value.ownBlock])).trans HR9'.out
                         have ho10' : OwnB w10 W11.heap.size v10 L2 := ho10
                         obtain ⟨A2, c2, rfl, tk2⟩ := ho10'.tkh hz9.out
                         have c42' := (VQ.out.cells hr10).c42
                         have f42' := frozen_of_row w10 z 42 _ _ hr10
                         have B10 : Hid (Below W.heap.size W w10) := hide (B11.out.drew.grown hg10 B11.out.drew.size (fun i e => by cases e))
                         have TK2 := hide tk2
                         have HR10 := hide hr10
                         clear ho10 ho10' hg10 ha10 hr10 tk2)
          go_upto_region 9 with (fail)
          obtain ⟨WX, hWX⟩ : ∃ W9, W9 = w10.setCell ⟨z, 42, none⟩ (.slice A2 L2.length c2) := ⟨_, rfl⟩
          have TKX2 : Hid (TkH z WX A2 c2 L2) := hide (by rw [hWX]; exact TK2.out.grown (grown_set w10 z 42 _) (fun j e => by cases e; exact .inl (Nat.le_refl _)))
          have BBX : Hid (Below W.heap.size W WX) := hide (by rw [hWX]; exact B10.out.grown (grown_set w10 z 42 _) B10.out.size (fun j e => by cases e; exact F.out.2.2))
          obtain ⟨Yr, hYr⟩ : ∃ Y, Y = (ipL { mIp true true (p6 : Int) (p7 : Int) (T : Int) (Lb : Int) sS sD with ad := A2, nd := L2.length, cd := c2 }).toArray := ⟨_, rfl⟩
          have rX : WX.heap[z]? = some (.cells Yr 27 (0, 0)) := by
            have e := heap_setCell_same w10 z 42 _ _ (.slice A2 L2.length c2) HR10.out
            rw [VQ.out.eq, ip_set42 _ VQ.out.ls VQ.out.ld] at e
            rw [hYr, hWX]
            exact e
          have VR : IpV Yr { mIp true true (p6 : Int) (p7 : Int) (T : Int) (Lb : Int) sS sD with ad := A2, nd := L2.length, cd := c2 } := ⟨hYr, VQ.out.ls, VQ.out.ld⟩
          have hYrs : Yr.size = 43 := VR.size
          have hYro : allOne Yr = true := VR.one
          have hYre : Yr.extract 0 43 = Yr := VR.x0
          have HVR := hide VR
          have zrX := (HK.out WX BBX.out).1
          have HBWX := hide (HK.out WX BBX.out).2.1
          rw [← hWX]
          clear hWX hYr VR c42' f42' c42 hAY
          go_wp2_with fail
          have hrow := setRow_heap WX w.heap.size Z Yr _ _ zrX
          refine bodyPost_ret (results_cell_tmp (fn := Try.f67) Try.results67 _ _ w.heap.size 27 Yr (0, 0) _ rfl hrow Try.underlying27 rfl (by rw [hYrs]; exact info_rip)) rfl ?_
          have hzw : w.heap.size < z := by have := F.out.2.2; have := hWs.out; omega
          have gX := setRow_grown WX w.heap.size Yr
          refine ⟨_, by rw [hE.out]; rfl, below_setRow HBWX.out (Nat.le_refl _) _, fun h0 => absurd hE.out h0, fun _ => ⟨A2, c2, ?_, ?_⟩⟩
          · have e : p6H l A2 c2 = { mIp true true (p6 : Int) (p7 : Int) (T : Int) (Lb : Int) sS sD with ad := A2, nd := L2.length, cd := c2 } := by
              unfold p6H mIp
              rw [HTL.out.1, HTL.out.2, ← HPP.out.1, ← HPP.out.2.1, ← HPP.out.2.2.1, ← HPP.out.2.2.2, HL2.out.2, HN.out.1]
            rw [e]
            exact HVR.out
          · have e := (TKX2.out.grown gX (fun j e => by cases e; exact .inl (Nat.le_of_lt hzw))).gave (w := w) (Nat.le_of_lt hzw)
            rw [HL2.out.1] at e
            exact e))
end Go.Proofs.Ytcfckhdohcaffaa
