/-
  A view as bytes: Bytes.
-/
import Derived.Test.YtpbgbfmpjgkllaaMz
import Derived.Test.YtpbgbfmpjgkllaaLayC
import Derived.Test.YtpbgbfmpjgkllaaApp2
namespace Go.Proofs.Ytpbgbfmpjgkllaa
open Go.RowKit
set_option maxRecDepth 100000
set_option linter.unusedVariables false
set_option linter.unusedSimpArgs false
attribute [local go_sem ↓] exec_span exec_put exec_build heap_alloc_new heap_old
attribute [local go_sem] spanQ_ptr spanC_some heap_of_drew heap_of_drewN putAt_ptr putOk_ptr oldOk_some World.setRow_alloc_new rs_inf rs_view

/-- numbers (how many bytes, which number) as what is read, as pieces, as bytes. -/
def plV (fl : List (Nat × Nat)) : List VItem := fl.map fun f => ⟨f.2, .slice none 0 0, []⟩
def plO (fl : List (Nat × Nat)) : List (Int × Int) := fl.map fun f => (0, (f.1 : Int))
def plB (fl : List (Nat × Nat)) : List UInt8 := fl.flatMap fun f => numBytes f.2 f.1 f.1
def plOk (fl : List (Nat × Nat)) : Prop := ∀ f ∈ fl, 1 ≤ f.1 ∧ f.1 ≤ 8 ∧ f.2 < 256 ^ f.1 ∧ f.2 < 9223372036854775808
theorem layS_pl : ∀ (fl : List (Nat × Nat)) (b : List UInt8), plOk fl → b.length + 8 * fl.length ≤ 65535 → layS (((plV fl).map fun it => (it.N, it.b)).zip (plO fl)) b = (b ++ plB fl, 0)
  | [], b, _, _ => by simp [plV, plO, plB, layS]
  | f :: t, b, h, hl => by
    obtain ⟨h1, h8, hN, _⟩ := h f (List.mem_cons_self ..)
    have hrest := layS_pl t (b ++ numBytes f.2 f.1 f.1) (fun g hg => h g (List.mem_cons_of_mem _ hg)) (by rw [List.length_append, length_numBytes]; simp at hl; omega)
    simp only [plV, plO, List.map_cons, List.zip_cons_cons, layS]
    have hf : fitsS f.2 ([] : List UInt8).length 0 (f.1 : Int) = true := by unfold fitsS; rw [if_pos rfl]; simp [hN]; omega
    have hlen : (b.length : Int) + (if (0 : Int) = 4 then ((([] : List UInt8).length : Nat) : Int) else (f.1 : Int)) ≤ 65535 := by rw [if_neg (by decide)]; simp at hl; omega
    rw [if_pos hf, if_pos hlen]
    have hp : putS f.2 [] 0 (f.1 : Int) = numBytes f.2 f.1 f.1 := by unfold putS; rw [if_pos rfl]; rfl
    rw [hp]
    simp only [plV, plO] at hrest
    rw [hrest]
    simp [plB]
theorem layR_pl (fl : List (Nat × Nat)) (h : plOk fl) (hl : fl.length ≤ 4096) : layR ((plV fl).map fun it => (it.N, it.b)) (plO fl) = (plB fl, 0) := by
  unfold layR
  rw [if_neg (by simp [plO]; omega), if_neg (by simp [plO, plV]), layS_pl fl [] h (by simp; omega), List.nil_append]
/-- how all are seen, as numbers. -/
def natI (p : Int × Int) : Nat × Nat := (p.1.toNat, p.2.toNat)
def fldI (n : Nat) (l : List (Int × Int)) : List (Nat × Nat) := (1, n) :: l.flatMap fun p => [(1, p.1.toNat), (6, p.2.toNat)]
theorem fldI_len (n : Nat) (l : List (Int × Int)) : (fldI n l).length = 1 + 2 * l.length := by
  unfold fldI
  induction l with
  | nil => rfl
  | cons a t ih => simp at ih ⊢; omega
theorem fldI_snoc (n : Nat) (l : List (Int × Int)) (p : Int × Int) : fldI n (l ++ [p]) = fldI n l ++ [(1, p.1.toNat), (6, p.2.toNat)] := by simp [fldI]
theorem plV_len (fl : List (Nat × Nat)) : (plV fl).length = fl.length := by simp [plV]
theorem plO_len (fl : List (Nat × Nat)) : (plO fl).length = fl.length := by simp [plO]
theorem plV_two (fl : List (Nat × Nat)) (f g : Nat × Nat) : itemCells (plV (fl ++ [f, g])) = itemCells (plV fl) ++ [.int .u64 (f.2 : Int), .slice none 0 0, .int .u64 (g.2 : Int), .slice none 0 0] := by simp [plV, itemCells]
theorem plO_two (fl : List (Nat × Nat)) (f g : Nat × Nat) : opCells (plO (fl ++ [f, g])) = opCells (plO fl) ++ [.int .i64 0, .int .i64 (f.1 : Int), .int .i64 0, .int .i64 (g.1 : Int)] := by simp [plO, opCells]
theorem right_nat {p : Int × Int} (h : rightI p = true) : p.1 = ((natI p).1 : Int) ∧ p.2 = ((natI p).2 : Int) ∧ (natI p).1 ≤ 2 ∧ (natI p).2 ≤ 1099511627776 := by
  unfold rightI at h
  simp only [Bool.and_eq_true, decide_eq_true_eq] at h
  unfold natI
  refine ⟨?_, ?_, ?_, ?_⟩ <;> omega
theorem fldI_ok {n : Nat} (hn : n ≤ 16) {l : List (Int × Int)} (h : ∀ p ∈ l, rightI p = true) : plOk (fldI n l) := fun f hf => by
  unfold fldI at hf
  rcases List.mem_cons.1 hf with rfl | hf
  · exact ⟨Nat.le_refl _, by show 1 ≤ 8; omega, by show n < 256 ^ 1; omega, by show n < 9223372036854775808; omega⟩
  · obtain ⟨p, hp, hf⟩ := List.mem_flatMap.1 hf
    obtain ⟨-, -, h3, h4⟩ := right_nat (h p hp)
    unfold natI at h3 h4
    simp at h3 h4
    simp at hf
    rcases hf with rfl | rfl
    · refine ⟨by simp, by simp, ?_, ?_⟩ <;> simp <;> omega
    · refine ⟨by simp, by simp, ?_, ?_⟩ <;> simp <;> omega
def bytesI (l : List (Int × Int)) : List UInt8 := plB (fldI l.length l)
theorem wrap_u64v {n : Nat} (h : n < 9223372036854775808) : IntKind.u64.wrap (n : Int) = (n : Int) := by rw [IntKind.wrap_u64]; omega
set_option maxHeartbeats 8000000 in
theorem putM_any (w : World) (A : Option Addr) (c : Nat) (l : List (Int × Int)) (hb : InfS w w.heap.size A l) (hl : l.length ≤ 16) (hr : ∀ p ∈ l, rightI p = true) :
    Calls Try.prog 47 #[.slice A l.length c] w fun e w' => ∃ A' c', e = .returned (.slice A' (bytesI l).length c') ∧ OwnB w' w.heap.size (.slice A' (bytesI l).length c') (bytesI l) ∧ Below w.heap.size w w' := by
  have HA := hide hb
  have HR := hide hr
  obtain ⟨N, hN⟩ : ∃ N, N = l.length := ⟨_, rfl⟩
  have HBI : Hid (bytesI l = plB (fldI N l)) := hide (by rw [hN]; rfl)
  generalize bytesI l = BB at HBI ⊢
  rw [← hN] at hl ⊢
  have HN := hide hN
  have hwN := wrap_u64v (show N < 9223372036854775808 by omega)
  have hop : ∀ k n : Int, Try.prog.built 111 [(0, .int .i64 k), (1, .int .i64 n)] = some #[.int .i64 k, .int .i64 n] := fun k n => by kernel_rfl
  have hva : ∀ n : Int, Try.prog.built 113 [(0, .int .u64 n)] = some #[.int .u64 n, .slice none 0 0] := fun n => by kernel_rfl
  obtain ⟨i0, hi0, hz0, hz1, hz2⟩ := info_parts info_val
  obtain ⟨j0, hj0, hy0, hy1, hy2⟩ := info_parts info_op
  clear hb hr hN
  go_enter Try.func47, Try.ntmps47
  go_upto_region 3 with (fail)
  have hO0 : Hid (((w.alloc (.cells #[.int .i64 0, .int .i64 1] 111)).alloc (.cells #[.int .u64 (N : Int), .slice none 0 0] 113)).ownsRow w.heap.size 111 2 (.slice (some ⟨w.heap.size, 0, none⟩) 1 1) 1 (opCells (plO (fldI N (l.take 0))))) := hide ((World.ownsRow_lit (e := 111) (size := 2) (base := w.heap.size) w #[.int .i64 0, .int .i64 1] 1 (Nat.le_refl _) (by unfold maxLen; omega) rfl).alloc _)
  have hV0 : Hid (((w.alloc (.cells #[.int .i64 0, .int .i64 1] 111)).alloc (.cells #[.int .u64 (N : Int), .slice none 0 0] 113)).ownsRow w.heap.size 113 2 (.slice (some ⟨w.heap.size + 1, 0, none⟩) 1 1) 1 (itemCells (plV (fldI N (l.take 0))))) := hide (by
    have := World.ownsRow_lit (e := 113) (size := 2) (base := w.heap.size) (w.alloc (.cells #[.int .i64 0, .int .i64 1] 111)) #[.int .u64 (N : Int), .slice none 0 0] 1 (by simp) (by unfold maxLen; omega) rfl
    rw [World.size_alloc] at this
    exact this)
  have hB0 : Hid (Below w.heap.size w ((w.alloc (.cells #[.int .i64 0, .int .i64 1] 111)).alloc (.cells #[.int .u64 (N : Int), .slice none 0 0] 113))) := hide (((Below.refl _ w).alloc (Nat.le_refl _) _).alloc (by simp) _)
  obtain ⟨W0, hW0⟩ : ∃ W, W = (w.alloc (.cells #[.int .i64 0, .int .i64 1] 111)).alloc (.cells #[.int .u64 (N : Int), .slice none 0 0] 113) := ⟨_, rfl⟩
  rw [← hW0] at hO0 hV0 hB0 ⊢
  clear hW0 hwN
  go_wp2
  go_loopw [3, 4, 18] (fun o v i wr => ∃ (o' v' : Value) (j m : Nat), j ≤ N ∧ Hid (m = 1 + 2 * j) ∧ o' = o ∧ v' = v ∧ i = .int .i64 (j : Int) ∧ Hid (wr.ownsRow w.heap.size 111 2 o' m (opCells (plO (fldI N (l.take j))))) ∧ Hid (wr.ownsRow w.heap.size 113 2 v' m (itemCells (plV (fldI N (l.take j))))) ∧ Hid (Below w.heap.size w wr))
    (fun _ _ i _ => N - (intOf i).toNat)
  case atStart => exact ⟨_, _, 0, 1, by omega, hide rfl, rfl, rfl, rfl, hO0, hV0, hB0⟩
  case round =>
    obtain ⟨uo, uv, j, m, hj, hm, rfl, rfl, rfl, ho, hv, hb⟩ := hrel
    by_cases hlt : j < N
    · have hji : (j : Int) < (N : Int) := by omega
      have hm33 : Hid (m ≤ 33) := hide (by have := hm.out; omega)
      have hkl : j < l.length := by rw [← HN.out]; exact hlt
      obtain ⟨bl, off, rfl, hbl, hcl⟩ := HA.out (by omega)
      obtain ⟨h1, h2⟩ := hcl j hkl
      have hrt := right_nat (HR.out _ (List.getElem_mem hkl))
      have hst := fldI_snoc N (l.take j) l[j]
      rw [← List.take_succ_eq_append_getElem hkl] at hst
      unfold natI at hrt
      dsimp only at hrt
      obtain ⟨s, hs⟩ : ∃ s, s = l[j].1.toNat := ⟨_, rfl⟩
      obtain ⟨i, hi⟩ : ∃ s, s = l[j].2.toNat := ⟨_, rfl⟩
      rw [← hs, ← hi] at hrt hst
      obtain ⟨e1, e2, hs2, hi2⟩ := hrt
      rw [e1] at h1
      rw [e2] at h2
      have hk0 := (hb.out.cell (p := ⟨bl, off + j * 2, none⟩) hbl).trans h1
      have hk1 := (hb.out.cell (p := ⟨bl, off + j * 2 + 1, none⟩) hbl).trans h2
      have HST := hide hst
      have hws := wrap_u64v (show s < 9223372036854775808 by omega)
      have hwi := wrap_u64v (show i < 9223372036854775808 by omega)
      have hao : allOne #[Value.int .i64 (s : Int), Value.int .i64 (i : Int)] = true := by simp [allOne, Value.oneCell']
      have hxv : (#[Value.int IntKind.i64 (s : Int), Value.int .i64 (i : Int)] : Array Value).extract 0 2 = #[Value.int IntKind.i64 (s : Int), Value.int .i64 (i : Int)] := rfl
      clear h1 h2 hcl hbl e1 e2 hs hi hst hkl
      go_upto_region 6 with (fail)
      obtain ⟨W, hW, r_x, hz, hbx⟩ := alloc_nam wr (.cells #[.int .i64 (s : Int), .int .i64 (i : Int)] 24)
      have hoW := hide (show W.ownsRow w.heap.size 111 2 uo m (opCells (plO (fldI N (l.take j)))) by rw [← hW]; exact ho.out.alloc _)
      have hvW := hide (show W.ownsRow w.heap.size 113 2 uv m (itemCells (plV (fldI N (l.take j)))) by rw [← hW]; exact hv.out.alloc _)
      rw [hW]
      have hbW := hide (hb.out.trans (hbx.mono hb.out.size))
      obtain ⟨gx, hgx⟩ : ∃ g, g = wr.heap.size := ⟨_, rfl⟩
      rw [← hgx] at r_x hz ⊢
      have RX := hide r_x
      have HZ := hide (show gx < W.heap.size by omega)
      clear hW hbx hgx ho hv hb hk0 hk1 r_x hz
      have hlit := heap_alloc_new W (.cells #[.int .i64 0, .int .i64 1, .int .i64 0, .int .i64 6] 111)
      have HLIT := hide hlit
      clear hlit
      go_wp2_with (at_builtin; go_loud (refine wpList_app_two rfl (.tmp 22) (.tmp 25) w.heap.size 112 111 j0 _ 16 rfl Try.underlying112 hj0 hy0 hy1 hy2 rfl uo m (opCells (plO (fldI N (l.take j)))) (some ⟨W.heap.size, 0, none⟩) 2 2 [.int .i64 0, .int .i64 1, .int .i64 0, .int .i64 6] rfl rfl (hoW.out.alloc _) rfl (fun _ => ⟨W.heap.size, 0, rfl, fun n u hu => by rw [cell_of_row _ _ (0 + n) _ _ (0, 0) HLIT.out, Nat.zero_add]; simpa using hu⟩) (fun e => by cases e) (fun u hu => by simp only [List.mem_cons, List.not_mem_nil, or_false] at hu; rcases hu with rfl | rfl | rfl | rfl <;> rfl) (by have := hm33.out; unfold maxLen; omega) (by have := hm33.out; omega) (by have := hbW.out.size; simp; omega) ?_))
      intro o4 w4 hown4 hgr4 hat4
      have hg4 : W.grownBy w4 uo.ownBlock := grown_trans (World.grownBy_alloc W _ _) hgr4
      have hno : ∀ i, uo.ownBlock = some i → w.heap.size ≤ i := fun i hi => (World.ownsRow.lt hoW.out i hi).1
      have HO4 : Hid (w4.ownsRow w.heap.size 111 2 o4 (m + 2) (opCells (plO (fldI N (l.take (j + 1)))))) := hide (by rw [HST.out, plO_two]; exact hown4)
      have HV4 := hide (World.ownsRow.kept hvW.out hg4 (own_own_ne hvW.out hoW.out (by decide)))
      have HB4 := hide (hbW.out.grown hg4 hbW.out.size hno)
      have hne1 : uo.ownBlock = none ∨ uo.ownBlock ≠ some gx := own_ne hoW.out RX.out (by decide)
      have r_x := (hg4.block gx HZ.out (fun e => by rcases hne1 with h | h <;> rw [← e] at h <;> simp at h)).trans RX.out
      have k0 := cell_of_row w4 gx 0 _ _ (0, 0) r_x
      have k1 := cell_of_row w4 gx 1 _ _ (0, 0) r_x
      clear hown4 hgr4 hat4 hg4 hno hne1 hoW hvW hbW HZ RX HLIT r_x
      have hlit := heap_alloc_new w4 (.cells #[.int .u64 (s : Int), .slice none 0 0, .int .u64 (i : Int), .slice none 0 0] 113)
      have HLIT := hide hlit
      clear hlit
      go_wp2_with (at_builtin; refine wpList_app_two rfl (.tmp 27) (.tmp 36) w.heap.size 114 113 i0 _ 32 rfl Try.underlying114 hi0 hz0 hz1 hz2 rfl uv m (itemCells (plV (fldI N (l.take j)))) (some ⟨w4.heap.size, 0, none⟩) 2 2 [.int .u64 (s : Int), .slice none 0 0, .int .u64 (i : Int), .slice none 0 0] rfl rfl (HV4.out.alloc _) rfl (fun _ => ⟨w4.heap.size, 0, rfl, fun n u hu => by rw [cell_of_row _ _ (0 + n) _ _ (0, 0) HLIT.out, Nat.zero_add]; simpa using hu⟩) (fun e => by cases e) (fun u hu => by simp only [List.mem_cons, List.not_mem_nil, or_false] at hu; rcases hu with rfl | rfl | rfl | rfl <;> rfl) (by have := hm33.out; unfold maxLen; omega) (by have := hm33.out; omega) (by have := HB4.out.size; simp; omega) ?_)
      intro v6 w6 hown6 hgr6 hat6
      have hg6 : w4.grownBy w6 uv.ownBlock := grown_trans (World.grownBy_alloc w4 _ _) hgr6
      have hnv : ∀ i, uv.ownBlock = some i → w.heap.size ≤ i := fun i hi => (World.ownsRow.lt HV4.out i hi).1
      have HV6 : Hid (w6.ownsRow w.heap.size 113 2 v6 (m + 2) (itemCells (plV (fldI N (l.take (j + 1)))))) := hide (by rw [HST.out, plV_two]; exact hown6)
      have HO6 := hide (World.ownsRow.kept HO4.out hg6 (own_own_ne HO4.out HV4.out (by decide)))
      have HB6 := hide (HB4.out.grown hg6 HB4.out.size hnv)
      clear hown6 hgr6 hat6 hg6 hnv k0 k1 HO4 HV4 HB4 HLIT
      go_wp2
      go_roundw
      case rel => exact ⟨_, _, j + 1, m + 2, by omega, hide (by have := hm.out; omega), rfl, rfl, by go_num, HO6, HV6, HB6⟩
      case measure => simp [intOf]; omega
    · have hjl : j = N := by omega
      subst hjl
      have hF : l.take j = l := List.take_of_length_le (by rw [HN.out]; exact Nat.le_refl _)
      rw [hF] at ho hv
      have hlen : (fldI j l).length = m := by rw [fldI_len, ← HN.out, hm.out]
      have hlV := (plV_len (fldI j l)).trans hlen
      have hlO := (plO_len (fldI j l)).trans hlen
      have hv2 := hv.out
      have ho2 : OwnO wr w.heap.size uo (plO (fldI j l)) := by unfold OwnO; rw [hlO]; exact ho.out
      rw [← hlV] at hv2
      obtain ⟨Av, cv, rfl, hrv⟩ := row_reads hv2
      obtain ⟨Ao, co, rfl, hro, -⟩ := ho2.shape
      have hc : RdC wr wr.heap.size (plV (fldI j l)) := fun it hit => by
        unfold plV at hit
        obtain ⟨f, hf, rfl⟩ := List.mem_map.1 hit
        exact ⟨none, 0, rfl, fun h => by simp at h, fun _ => rfl⟩
      have C := lay_any wr Av Ao cv co (plV (fldI j l)) (plO (fldI j l)) hrv hc hro (plB (fldI j l), 0) (layR_pl (fldI j l) (fldI_ok hl HR.out) (by rw [hlen]; have := hm.out; omega)).symm
      rw [hlV, hlO] at C
      rw [hlV, hlO]
      dsimp only at C
      rw [← HBI.out] at C
      have HC := hide C
      have hB := hide hb.out
      clear hrv hc hro hv ho hv2 ho2 C hb hF hlen hlV hlO
      go_wp2_with fail
      refine HC.out.mono ?_
      rintro e w7 ⟨A7, c7, rfl, hown7, hb7⟩
      have H7 := hide (hown7.base hB.out.size)
      have HB7 := hide (hB.out.trans (hb7.mono hB.out.size))
      clear hown7 hb7
      dsimp only
      go_wp2
      go_ret
      exact ⟨A7, c7, rfl, H7.out, HB7.out⟩
end Go.Proofs.Ytpbgbfmpjgkllaa
namespace Go.Proofs.Ytpbgbfmpjgkllaa
open Go.RowKit Go.Shelf
set_option maxRecDepth 100000
set_option linter.unusedVariables false
set_option linter.unusedSimpArgs false
attribute [local go_sem] Oper.semAt_some
attribute [local go_sem ↓] exec_span exec_put exec_build heap_alloc_new heap_old
attribute [local go_sem] spanQ_ptr spanC_some heap_of_drew heap_of_drewN putAt_ptr putOk_ptr oldOk_some World.setRow_alloc_new rs_inf rs_view

theorem upto_snd (l : List (Int × Int)) : (uptoV l l.length).map (·.2) = l := by
  unfold uptoV
  rw [List.map_map]
  refine List.ext_getElem (by simp) fun j h1 h2 => ?_
  simp only [List.getElem_map, List.getElem_range, Function.comp]
  unfold getV
  rw [if_pos (by omega)]
  simp [List.getD_eq_getElem?_getD, h2]
theorem info_infMR : (Try.prog.info? 24).map (fun i => (i.zero, i.size, i.bytes)) = some (some (.agg #[.int .i64 0, .int .i64 0]), 2, 16) := by kernel_rfl
theorem cells_two_new (W : World) (a b : Value) (t : TypeId) : ∀ j u, [a, b][j]? = some u → (W.alloc (.cells #[a, b] t)).cell? ((⟨W.heap.size, 0, none⟩ : Addr).add j) = some u := fun j u h => by
  rw [add_none, cell_of_row _ _ _ _ _ (0, 0) (heap_alloc_new W _), Nat.zero_add]
  simpa using h
set_option maxHeartbeats 4000000 in
theorem bytesV_in (F : Fence) (HW : Hid (F = Fence.wide)) (n : Nat) (hF : F.fn 28) (hF1 : F.fn 46) (hF2 : F.fn 58) (hF3 : F.fn 47) (hro : F.round = none) (hn : 4 ≤ n) (w : World) (g b : Nat) (me : Int) (l : List (Int × Int)) (hv : ViewS w g b me l) (hl : l.length ≤ 16) (hr : ∀ p ∈ l, rightI p = true) :
    CallsIn F n Try.prog 28 #[.pointer (some ⟨g, 0, none⟩)] w fun e W' => ∃ A c, e = .returned (.slice A (bytesI l).length c) ∧ OwnB W' w.heap.size (.slice A (bytesI l).length c) (bytesI l) ∧ Below w.heap.size w W' := by
  have h1 : 1 ≤ n := by omega
  have HR := hide hr
  obtain ⟨i0, hi, hz0, hz1, hz2⟩ := info_parts info_infMR
  refine callsIn_of_wp_marks Try.func28 rfl hF ?_ hro
  simp only [Try.ntmps28, List.size_toArray, List.length_cons, List.length_nil, Nat.reduceAdd, Nat.reduceSub, Array.replicate_succ, Array.replicate_zero, List.push_toArray, List.append_toArray, List.nil_append, List.cons_append]
  gi_wp2_with (gi_at_call 46; refine (all_in F (n - 1) hF1 hro _ _).mono ?_; rintro e w' ⟨rfl, rfl⟩)
  have bO := (Boxed.new w 64 (.slice none 0 0)).alloc (.cells #[.pointer (some ⟨g, 0, none⟩)] 33)
  have bN := Boxed.new (w.alloc (.cells #[.slice none 0 0] 64)) 33 (.pointer (some ⟨g, 0, none⟩))
  rw [World.size_alloc] at bN
  have hB0 : Below w.heap.size w ((w.alloc (.cells #[.slice none 0 0] 64)).alloc (.cells #[.pointer (some ⟨g, 0, none⟩)] 33)) := ((Below.refl _ w).alloc (Nat.le_refl _) _).alloc (by simp) _
  have hsz : ((w.alloc (.cells #[.slice none 0 0] 64)).alloc (.cells #[.pointer (some ⟨g, 0, none⟩)] 33)).heap.size = w.heap.size + 2 := by simp
  obtain ⟨W0, hW0⟩ : ∃ W0, (w.alloc (.cells #[.slice none 0 0] 64)).alloc (.cells #[.pointer (some ⟨g, 0, none⟩)] 33) = W0 := ⟨_, rfl⟩
  rw [hW0] at bO bN hB0 hsz ⊢
  clear hW0
  have hg := hv.lt
  have hb := hv.map.lt
  refine wpIn_rangeFunc_ownH hro h1 (gf := 58) (lb := #[.pointer (some ⟨w.heap.size + 1, 0, none⟩)]) rfl hF2 (enters_of Try.func58 (by kernel_rfl) rfl)
    (allV_stops F (n - 1) hF2 hro (by omega) (w.heap.size + 1) w.heap.size g b me l W0 (by omega) (by omega) bN.cell (hv.below hB0 (Nat.le_refl _)) hg hb (by omega)) keepB_t (keepB_b (by omega) (by omega)) (Below.refl _ _) (fun _ => rfl)
    (fun pre W => (∃ v, Boxed W w.heap.size 64 v ∧ W.ownsRow w.heap.size 24 2 v pre.length (infC (pre.map (·.2))) ∧ v.ownBlock ≠ some (w.heap.size + 1)) ∧ (Below w.heap.size w W ∧ Boxed W (w.heap.size + 1) 33 (.pointer (some ⟨g, 0, none⟩))))
    (fun _ _ _ => False)
    (OwnFrom.and (Own.from (holdsRow_own w.heap.size w.heap.size 64 24 2 (fun pre : List (Nat × (Int × Int)) => pre.length) (fun pre => infC (pre.map (·.2))) (fun _ v => v.ownBlock ≠ some (w.heap.size + 1))) _) (OwnFrom.and (ownFrom_below (Nat.le_refl _) (by omega)) (Own.from (boxed_own _ _ _) _)))
    (fun _ _ _ _ _ hs _ _ => hs)
    ⟨⟨_, bO, World.ownsRow_nil _ _ _ _, (by simp [Value.ownBlock])⟩, hB0, bN⟩
    (fun x a' W => ∃ Bx, w.heap.size + 1 < Bx ∧ W.heap[Bx]? = some (.cells #[.int .i64 x.2.1, .int .i64 x.2.2] 24 (0, 0)) ∧ a' = { tmps := #[.pointer (some ⟨g, 0, none⟩), undef, .slice none 0 0, .pointer (some ⟨w.heap.size, 0, none⟩), undef, .pointer (some ⟨Bx, 0, none⟩), .pointer (some ⟨g, 0, none⟩), .bool false, .pointer (some ⟨g, 0, none⟩), .func (.func 58) #[] #[.pointer (some ⟨w.heap.size + 1, 0, none⟩)], .int .i64 (x.1 : Int), .agg #[.int .i64 x.2.1, .int .i64 x.2.2], undef, undef, undef, undef, undef, undef], defers := [] })
    (fun x a' _ X Y row hs hg hr => by obtain ⟨Bx, h1, h2, h3⟩ := hs; exact ⟨Bx, h1, cells_kept h2 hg (fun r e => (hr r e).2), h3⟩)
    ?assign ?body ?done ?stop
  case assign =>
    rintro lp pre x W K ⟨⟨v, bO1, hrow, hvn⟩, hB1, bN1⟩ hK
    have hao : allOne #[Value.int .i64 x.2.1, Value.int .i64 x.2.2] = true := by simp [allOne, Value.oneCell']
    gi_wp2
    exact hK _ _ ((KeepsOthers.alloc _ _).from _) ⟨(Below.refl _ W).alloc hB1.size _, heap_alloc_old _ _ bN1.lt⟩ ⟨⟨v, bO1.alloc _, hrow.alloc _, hvn⟩, hB1.alloc hB1.size _, bN1.alloc _⟩ ⟨W.heap.size, bN1.lt, heap_alloc_new _ _, rfl⟩
  case body =>
    rintro lp pre x a' W hlp ⟨r, hr⟩ ⟨⟨v, bO1, hrow, hvn⟩, hB1, bN1⟩ ⟨Bx, hBx, rX, rfl⟩ hlt
    have c0 : W.cell? ⟨Bx, 0, none⟩ = some (.int .i64 x.2.1) := (cell_of_row W Bx 0 _ _ (0, 0) rX).trans rfl
    have c1 : W.cell? ⟨Bx, 1, none⟩ = some (.int .i64 x.2.2) := (cell_of_row W Bx 1 _ _ (0, 0) rX).trans rfl
    have hc := bO1.cell
    have hbs := hB1.size
    have hxv : (#[Value.int IntKind.i64 x.2.1, Value.int .i64 x.2.2] : Array Value).extract 0 2 = #[Value.int IntKind.i64 x.2.1, Value.int .i64 x.2.2] := rfl
    gi_wp2_with (gi_at_builtin; (refine wpListIn_append_own _ rfl _ _ 64 rfl w.heap.size 24 i0 (.agg #[.int .i64 0, .int .i64 0]) 2 16 Try.underlying64 hi hz0 hz1 hz2 rfl (by decide) _ _ _ rfl (hrow.alloc _) ⟨W.heap.size, 0, none⟩ 1 1 [.int .i64 x.2.1, .int .i64 x.2.2] rfl rfl (cells_two_new _ _ _ _) (by simp [Value.oneCell']) (by unfold maxLen; omega) (by omega) (by simp; omega) ?_); intro v' w1 hown' hgrow hat; obtain ⟨g', cap', rfl⟩ := ownsRow_succ hown'; obtain ⟨hv1, hv2, hr2, hk2, hb2⟩ := bO1.appended (by decide) hrow hB1.size (Nat.le_refl _) hown' hgrow; have hc1 := hv1.cell; have hf1 := hv1.frozen)
    have hk1 := (hgrow.block (w.heap.size + 1) (by have := bN1.lt; simp; omega) (fun e => hvn e.symm)).trans (heap_alloc_old W _ bN1.lt)
    have hne : g' ≠ w.heap.size + 1 := fun e => by
      rcases hown'.2 with ⟨e0, _⟩ | ⟨gg, cap, cur, ev, _, hgg, _⟩
      · cases e0
      · cases ev
        have h9 := hk1.trans bN1
        rw [← e, hgg] at h9
        cases h9
    have hkb := (Below.heap_setCell w1 ⟨w.heap.size, 0, none⟩ (.slice (some ⟨g', 0, none⟩) (pre.length + 1) cap') (w.heap.size + 1) (by simp)).trans hk1
    exact ⟨hk2.from _, ⟨hb2, hkb⟩, ⟨_, hv2, by simpa [infC_snoc] using hr2, by simp [Value.ownBlock]; omega⟩, hB1.trans hb2, hkb.trans bN1⟩
  case done =>
    rintro D ys W hD rfl ⟨⟨v, bO1, hrow, -⟩, hB1, bN1⟩ hK
    have hc := bO1.cell
    rw [upto_snd, uptoV_len] at hrow
    obtain ⟨Av, cv, rfl, -, hvs⟩ := row_infs hrow
    have C := putM_any W Av cv l hvs hl HR.out
    gi_wp2_with (gi_at_call 47; refine (show CallsIn F (n - 1) _ _ _ _ _ by rw [HW.out]; exact (callsIn_wide (n := n - 1)).2 C).mono ?_; rintro e w7 ⟨A7, c7, rfl, hown7, hb7⟩)
    have hK7 := (hb7.block D (Array.getElem?_eq_some_iff.1 hK).1).trans hK
    refine ⟨by simp, .inl ⟨_, _, rfl, run_takeDeferred hK7, ?_⟩⟩
    exact ⟨_, results_tmp rfl _ _ _, A7, c7, rfl, ownsRow_putObj (hown7.base hB1.size) _ hK7 rfl, (hB1.trans (hb7.mono hB1.size)).trans (belowK_b (w := W0) (by omega) w7 D _ _ (by omega) hK7 rfl rfl)⟩
  case stop =>
    rintro D c pre W _ _ h _
    exact h.elim
theorem bytesV_any (w : World) (g b : Nat) (me : Int) (l : List (Int × Int)) (hv : ViewS w g b me l) (hl : l.length ≤ 16) (hr : ∀ p ∈ l, rightI p = true) :
    Calls Try.prog 28 #[.pointer (some ⟨g, 0, none⟩)] w fun e W' => ∃ A c, e = .returned (.slice A (bytesI l).length c) ∧ OwnB W' w.heap.size (.slice A (bytesI l).length c) (bytesI l) ∧ Below w.heap.size w W' :=
  (callsIn_wide (n := 4)).1 (bytesV_in Fence.wide (hide rfl) 4 trivial trivial trivial trivial rfl (by decide) w g b me l hv hl hr)
end Go.Proofs.Ytpbgbfmpjgkllaa
