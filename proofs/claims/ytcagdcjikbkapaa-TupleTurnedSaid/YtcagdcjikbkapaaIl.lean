/-
  The walk of header.lay: numbers as bytes, one behind the other.
-/
import Derived.Test.YtcagdcjikbkapaaMla
import Derived.Test.YtcagdcjikbkapaaMrd
import Derived.Test.YtcagdcjikbkapaaLent
namespace Go.Proofs.Ytcagdcjikbkapaa
open Go.RowKit
set_option maxRecDepth 100000
set_option linter.unusedVariables false
set_option linter.unusedSimpArgs false

/-- numbers (how many bytes, which number) as what is read, as pieces, as bytes. -/
def fldV (fl : List (Nat × Nat)) : List VItem := fl.map fun f => ⟨f.2, .slice none 0 0, []⟩
def fldO (fl : List (Nat × Nat)) : List (Int × Int) := fl.map fun f => (0, (f.1 : Int))
def fldF (fl : List (Nat × Nat)) : List (Int × Int) := fl.map fun f => ((f.1 : Int), (f.2 : Int))
def fldB (fl : List (Nat × Nat)) : List UInt8 := fl.flatMap fun f => numBytes f.2 f.1 f.1
def fldOk (fl : List (Nat × Nat)) : Prop := ∀ f ∈ fl, 1 ≤ f.1 ∧ f.1 ≤ 8 ∧ f.2 < 256 ^ f.1 ∧ f.2 < 9223372036854775808
theorem layS_fld : ∀ (fl : List (Nat × Nat)) (b : List UInt8), fldOk fl → b.length + 8 * fl.length ≤ 65535 → layS (((fldV fl).map fun it => (it.N, it.b)).zip (fldO fl)) b = (b ++ fldB fl, 0)
  | [], b, _, _ => by simp [fldV, fldO, fldB, layS]
  | f :: t, b, h, hl => by
    obtain ⟨h1, h8, hN, _⟩ := h f (List.mem_cons_self ..)
    have hrest := layS_fld t (b ++ numBytes f.2 f.1 f.1) (fun g hg => h g (List.mem_cons_of_mem _ hg)) (by rw [List.length_append, length_numBytes]; simp at hl; omega)
    simp only [fldV, fldO, List.map_cons, List.zip_cons_cons, layS]
    have hf : fitsS f.2 ([] : List UInt8).length 0 (f.1 : Int) = true := by unfold fitsS; rw [if_pos rfl]; simp [hN]; omega
    have hlen : (b.length : Int) + (if (0 : Int) = 4 then ((([] : List UInt8).length : Nat) : Int) else (f.1 : Int)) ≤ 65535 := by rw [if_neg (by decide)]; simp at hl; omega
    rw [if_pos hf, if_pos hlen]
    have hp : putS f.2 [] 0 (f.1 : Int) = numBytes f.2 f.1 f.1 := by unfold putS; rw [if_pos rfl]; rfl
    rw [hp]
    simp only [fldV, fldO] at hrest
    rw [hrest]
    simp [fldB]
theorem layR_fld (fl : List (Nat × Nat)) (h : fldOk fl) (hl : fl.length ≤ 4096) : layR ((fldV fl).map fun it => (it.N, it.b)) (fldO fl) = (fldB fl, 0) := by
  unfold layR
  rw [if_neg (by simp [fldO]; omega), if_neg (by simp [fldO, fldV]), layS_fld fl [] h (by simp; omega), List.nil_append]
theorem fld_take {fl : List (Nat × Nat)} {j : Nat} (h : j < fl.length) : fl.take (j + 1) = fl.take j ++ [fl[j]] := List.take_succ_eq_append_getElem h
theorem fldV_snoc (fl : List (Nat × Nat)) (f : Nat × Nat) : fldV (fl ++ [f]) = fldV fl ++ [⟨f.2, .slice none 0 0, []⟩] := by simp [fldV]
theorem fldO_snoc (fl : List (Nat × Nat)) (f : Nat × Nat) : fldO (fl ++ [f]) = fldO fl ++ [(0, (f.1 : Int))] := by simp [fldO]

theorem flds_at {w : World} {B : Nat} {A : Option Addr} {fl : List (Nat × Nat)} (h : Ops w B A (fldF fl)) {j : Nat} (hj : j < fl.length) : ∃ b off, A = some ⟨b, off, none⟩ ∧ b < B ∧ w.cell? ⟨b, off + j * 2, none⟩ = some (.int .i64 (fl[j].1 : Int)) ∧ w.cell? ⟨b, off + j * 2 + 1, none⟩ = some (.int .i64 (fl[j].2 : Int)) := by
  obtain ⟨b, off, e, hb, hc⟩ := h (by simp [fldF]; omega)
  have h := hc j (by simpa [fldF] using hj)
  refine ⟨b, off, e, hb, ?_, ?_⟩
  · simpa [fldF] using h.1
  · simpa [fldF] using h.2

set_option maxHeartbeats 4000000 in
theorem layH_any (w : World) (A : Option Addr) (c : Nat) (fl : List (Nat × Nat)) (ho : Ops w w.heap.size A (fldF fl)) (hok : fldOk fl) (hl : fl.length ≤ 16) :
    Calls Try.prog 105 #[.slice A fl.length c] w fun e w' => ∃ A' c', e = .returned (.slice A' (fldB fl).length c') ∧ OwnB w' w.heap.size (.slice A' (fldB fl).length c') (fldB fl) ∧ Below w.heap.size w w' := by
  have HO := hide hok
  have HL := hide hl
  have HA := hide ho
  clear ho hok hl
  go_enter Try.func105, Try.ntmps105
  go_wp2
  go_loopw [3, 4, 11] (fun v o i wr => ∃ (j : Nat), j ≤ fl.length ∧ i = .int .i64 (j : Int) ∧ Hid (wr.ownsRow w.heap.size 108 2 v (fldV (fl.take j)).length (itemCells (fldV (fl.take j)))) ∧ Hid (OwnO wr w.heap.size o (fldO (fl.take j))) ∧ Hid (Below w.heap.size w wr))
    (fun _ _ i _ => fl.length - (intOf i).toNat)
  case atStart => exact ⟨0, by omega, rfl, hide (World.ownsRow_nil _ _ _ _), hide (World.ownsRow_nil _ _ _ _), hide (Below.refl _ _)⟩
  case round =>
    obtain ⟨j, hj, rfl, hv, ho, hb⟩ := hrel
    by_cases hlt : j < fl.length
    · have hjb : j < 16 := by have := HL.out; omega
      obtain ⟨bb, off, rfl, hbb, hc0, hc1⟩ := flds_at HA.out hlt
      obtain ⟨h1, h8, hN, h63⟩ := HO.out fl[j] (List.getElem_mem hlt)
      obtain ⟨sz, hsz⟩ : ∃ s, s = fl[j].1 := ⟨_, rfl⟩
      obtain ⟨N, hNN⟩ : ∃ s, s = fl[j].2 := ⟨_, rfl⟩
      rw [← hsz] at hc0 h1 h8 hN
      rw [← hNN] at hc1 h63 hN
      have hk0 := (hb.out.cell (p := ⟨bb, off + j * 2, none⟩) hbb).trans hc0
      have hk1 := (hb.out.cell (p := ⟨bb, off + j * 2 + 1, none⟩) hbb).trans hc1
      have HS := hide hsz
      have HN := hide hNN
      have HBB := hide hbb
      clear hc0 hc1 hsz hNN hbb
      obtain ⟨i0, hi0, hz0, hz1, hz2⟩ := info_parts info_val
      obtain ⟨j0, hj0, hy0, hy1, hy2⟩ := info_parts info_op
      obtain ⟨W, hW⟩ : ∃ W, W = wr.alloc (.cells #[.int .i64 (sz : Int), .int .i64 (N : Int)] 150) := ⟨_, rfl⟩
      have hWb : W.heap[wr.heap.size]? = some (.cells #[.int .i64 (sz : Int), .int .i64 (N : Int)] 150 (0, 0)) := by rw [hW]; exact heap_alloc_new wr _
      have hlit : (W.alloc (.cells #[.int .u64 (N : Int), .slice none 0 0] 108)).heap[W.heap.size]? = some (.cells #[.int .u64 (N : Int), .slice none 0 0] 108 (0, 0)) := heap_alloc_new W _
      have hWs : W.heap.size = wr.heap.size + 1 := by rw [hW]; simp
      have hvW : W.ownsRow w.heap.size 108 2 u3 (fldV (fl.take j)).length (itemCells (fldV (fl.take j))) := by rw [hW]; exact hv.out.alloc _
      have hoW : OwnO W w.heap.size u4 (fldO (fl.take j)) := by rw [hW]; exact World.ownsRow.alloc ho.out _
      have hbW : Below w.heap.size w W := by rw [hW]; exact hb.out.alloc hb.out.size _
      have HWB := hide hWb
      have HLIT := hide hlit
      have HWS := hide hWs
      have HVW := hide hvW
      have HOW := hide hoW
      have HBW := hide hbW
      have HWE := hide hW
      have HBS : Hid (w.heap.size ≤ W.heap.size) := hide hbW.size
      have hlv : Hid ((fldV (fl.take j)).length ≤ 16) := hide (by have := HL.out; simp [fldV]; omega)
      have hlo : Hid ((fldO (fl.take j)).length ≤ 16) := hide (by have := HL.out; simp [fldO]; omega)
      clear hWb hlit hWs hvW hoW hbW hW hv ho hb
      have c0 : (wr.alloc (.cells #[.int .i64 (sz : Int), .int .i64 (N : Int)] 150)).cell? ⟨wr.heap.size, 0, none⟩ = some (.int .i64 (sz : Int)) := (two_cells wr _ _ _).1
      have c1 : (wr.alloc (.cells #[.int .i64 (sz : Int), .int .i64 (N : Int)] 150)).cell? ⟨wr.heap.size, 1, none⟩ = some (.int .i64 (N : Int)) := (two_cells wr _ _ _).2
      go_wp2_with (at_builtin; (rw [← HWE.out]); refine wpList_app_two rfl (.tmp 15) (.tmp 20) w.heap.size 105 108 i0 _ 32 rfl Try.underlying105 hi0 hz0 hz1 hz2 rfl u3 (fldV (fl.take j)).length (itemCells (fldV (fl.take j))) (some ⟨W.heap.size, 0, none⟩) 1 1 [.int .u64 (N : Int), .slice none 0 0] rfl (by rw [HWS.out]; rfl) (by exact HVW.out.alloc _) rfl (fun _ => ⟨W.heap.size, 0, rfl, fun n u hu => by rw [cell_of_row _ _ (0 + n) _ _ (0, 0) HLIT.out, Nat.zero_add]; simpa using hu⟩) (fun e => by cases e) (fun u hu => by simp at hu; rcases hu with rfl | rfl <;> rfl) (by have := hlv.out; unfold maxLen; omega) (by have := hlv.out; omega) (by have := HBS.out; simp; omega) ?_)
      intro v4 w4 hown4 hgr4 hat4
      have hg4 : W.grownBy w4 u3.ownBlock := grown_trans (World.grownBy_alloc W _ _) hgr4
      have hnv : ∀ i, u3.ownBlock = some i → w.heap.size ≤ i := fun i hi => (World.ownsRow.lt HVW.out i hi).1
      have hV4 : w4.ownsRow w.heap.size 108 2 v4 (fldV (fl.take (j + 1))).length (itemCells (fldV (fl.take (j + 1)))) := by
        rw [fld_take hlt, fldV_snoc, itemCells_snoc, List.length_append]
        rw [← HN.out]; exact hown4
      have hO4 : OwnO w4 w.heap.size u4 (fldO (fl.take j)) := World.ownsRow.kept HOW.out hg4 (own_own_ne HOW.out HVW.out (by decide))
      have hB4 : Below w.heap.size w w4 := HBW.out.grown hg4 HBS.out hnv
      have hne1 : u3.ownBlock = none ∨ u3.ownBlock ≠ some wr.heap.size := own_ne HVW.out HWB.out (by decide)
      have hb4 : w4.heap[wr.heap.size]? = some (.cells #[.int .i64 (sz : Int), .int .i64 (N : Int)] 150 (0, 0)) := (hg4.block _ (by have := HWS.out; omega) (fun e => by rcases hne1 with h | h <;> rw [← e] at h <;> simp at h)).trans HWB.out
      have hs4 : w.heap.size ≤ w4.heap.size := Nat.le_trans HBS.out hg4.size
      have hlit4 : (w4.alloc (.cells #[.int .i64 0, .int .i64 (sz : Int)] 135)).heap[w4.heap.size]? = some (.cells #[.int .i64 0, .int .i64 (sz : Int)] 135 (0, 0)) := heap_alloc_new w4 _
      have k0 := cell_of_row w4 _ 0 _ _ (0, 0) hb4
      have HV4 := hide hV4
      have HO4 := hide hO4
      have HB4 := hide hB4
      have HS4 := hide hs4
      have HL4 := hide hlit4
      clear hown4 hgr4 hat4 hg4 hnv hV4 hO4 hB4 hne1 hb4 hs4 hlit4 c0 c1
      go_wp2_with (at_builtin; refine wpList_app_two rfl (.tmp 22) (.tmp 26) w.heap.size 98 135 j0 _ 16 rfl Try.underlying98 hj0 hy0 hy1 hy2 rfl u4 (fldO (fl.take j)).length (opCells (fldO (fl.take j))) (some ⟨w4.heap.size, 0, none⟩) 1 1 [.int .i64 0, .int .i64 (sz : Int)] rfl rfl (by exact World.ownsRow.alloc HO4.out _) rfl (fun _ => ⟨w4.heap.size, 0, rfl, fun n u hu => by rw [cell_of_row _ _ (0 + n) _ _ (0, 0) HL4.out, Nat.zero_add]; simpa using hu⟩) (fun e => by cases e) (fun u hu => by simp at hu; rcases hu with rfl | rfl <;> rfl) (by have := hlo.out; unfold maxLen; omega) (by have := hlo.out; omega) (by have := HS4.out; simp; omega) ?_)
      intro v6 w6 hown6 hgr6 hat6
      have hg6 : w4.grownBy w6 u4.ownBlock := grown_trans (World.grownBy_alloc w4 _ _) hgr6
      have hno : ∀ i, u4.ownBlock = some i → w.heap.size ≤ i := fun i hi => (World.ownsRow.lt HO4.out i hi).1
      have hO6 : OwnO w6 w.heap.size v6 (fldO (fl.take (j + 1))) := by
        rw [fld_take hlt, fldO_snoc]
        unfold OwnO
        rw [opCells_snoc, List.length_append, ← HS.out]; exact hown6
      have H1 := hide (World.ownsRow.kept HV4.out hg6 (own_own_ne HV4.out HO4.out (by decide)))
      have H2 := hide hO6
      have H3 := hide (HB4.out.grown hg6 HS4.out hno)
      clear hown6 hgr6 hat6 hg6 hno hO6 k0 hk0 hk1
      go_wp2
      go_roundw
      case rel => exact ⟨j + 1, by omega, by go_num, H1, H2, H3⟩
      case measure => simp [intOf]; omega
    · have hjl : j = fl.length := by omega
      subst hjl
      rw [List.take_length] at hv ho
      obtain ⟨Av, cv, rfl, hrv⟩ := row_reads hv.out
      obtain ⟨Ao, co, rfl, hro, -⟩ := ho.out.shape
      have hc : RdC wr wr.heap.size (fldV fl) := fun it hit => by
        unfold fldV at hit
        obtain ⟨f, hf, rfl⟩ := List.mem_map.1 hit
        exact ⟨none, 0, rfl, fun h => by simp at h, fun _ => rfl⟩
      have C := lay_any wr Av Ao cv co (fldV fl) (fldO fl) hrv hc hro (fldB fl, 0) (layR_fld fl HO.out (by have := HL.out; omega)).symm
      have HC := hide C
      have hB := hide hb.out
      clear hrv hc hro hv ho C hb
      go_wp2_with (go_at_call 84; (with_reducible refine (HC.out).mono ?_); rintro _ _ ⟨A7, c7, rfl, hown7, hb7⟩)
      go_ret
      exact ⟨A7, c7, rfl, hown7.base hB.out.size, hB.out.trans (hb7.mono hB.out.size)⟩
end Go.Proofs.Ytcagdcjikbkapaa
