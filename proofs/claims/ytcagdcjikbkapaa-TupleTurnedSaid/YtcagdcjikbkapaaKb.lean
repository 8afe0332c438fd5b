/-
  The walks of segment.pieces and segment.lay.
-/
import Derived.Test.YtcagdcjikbkapaaKa
import Derived.Test.YtcagdcjikbkapaaIl
namespace Go.Proofs.Ytcagdcjikbkapaa
open Go.RowKit
set_option maxRecDepth 100000
set_option linter.unusedVariables false
set_option linter.unusedSimpArgs false

/-- the slice that begins at A reads, below block B, as these numbers. -/
def IntsAt (w : World) (B : Nat) (A : Option Addr) (k : IntKind) (l : List Int) : Prop :=
  0 < l.length → ∃ b off, A = some ⟨b, off, none⟩ ∧ b < B ∧ ∀ i (h : i < l.length), w.cell? ⟨b, off + i, none⟩ = some (.int k l[i])
theorem IntsAt.below {w w' : World} {B : Nat} {A : Option Addr} {k : IntKind} {l : List Int} (h : IntsAt w B A k l) (hb : Below B w w') : IntsAt w' B A k l := fun h0 => by
  obtain ⟨b, off, e, hlt, hc⟩ := h h0
  exact ⟨b, off, e, hlt, fun i hi => (hb.cell (p := ⟨b, off + i, none⟩) hlt).trans (hc i hi)⟩
theorem IntsAt.lit (w : World) (k : IntKind) (l : List Int) (cs : Array Value) (t : TypeId) (h : cs = (l.map fun z => Value.int k z).toArray) : IntsAt (w.alloc (.cells cs t)) (w.heap.size + 1) (some ⟨w.heap.size, 0, none⟩) k l := fun _ =>
  ⟨w.heap.size, 0, rfl, Nat.lt_succ_self _, fun i hi => by
    subst h
    rw [cell_of_row (w.alloc _) w.heap.size (0 + i) _ t (0, 0) (heap_alloc_new w _)]
    simp [hi]⟩

set_option maxHeartbeats 2000000 in
theorem piecesN_any (w : World) (A : Option Addr) (c : Nat) (ss : List Nat) (ha : IntsAt w w.heap.size A .i64 (ss.map fun s : Nat => (s : Int))) (hl : ss.length ≤ 16) :
    Calls Try.prog 85 #[.slice A ss.length c] w fun e w' => ∃ v, e = .returned v ∧ OwnO w' w.heap.size v (opsN ss) ∧ Below w.heap.size w w' := by
  have HL := hide hl
  have HA := hide ha
  clear ha hl
  go_enter Try.func85, Try.ntmps85
  go_wp2
  go_loopw [3, 8] (fun v i wr => ∃ (j : Nat), j ≤ ss.length ∧ i = .int .i64 (j : Int) ∧ Hid (OwnO wr w.heap.size v (opsN (ss.take j))) ∧ Hid (Below w.heap.size w wr))
    (fun _ i _ => ss.length - (intOf i).toNat)
  case atStart => exact ⟨0, by omega, rfl, hide (World.ownsRow_nil _ _ _ _), hide (Below.refl _ _)⟩
  case round =>
    obtain ⟨j, hj, rfl, ho, hb⟩ := hrel
    by_cases hlt : j < ss.length
    · have hjb : j < 16 := by have := HL.out; omega
      obtain ⟨bb, off, rfl, hbb, hc⟩ := HA.out (by simp; omega)
      have hc0 := hc j (by simpa using hlt)
      obtain ⟨sz, hsz⟩ : ∃ s, s = ss[j] := ⟨_, rfl⟩
      have hc1 : w.cell? ⟨bb, off + j, none⟩ = some (.int .i64 (sz : Int)) := by rw [hc0, hsz]; simp
      have hk0 := (hb.out.cell (p := ⟨bb, off + j, none⟩) hbb).trans hc1
      have HSZ := hide hsz
      have hsn : opsN (ss.take (j + 1)) = opsN (ss.take j) ++ [(0, (sz : Int))] := by
        rw [List.take_succ_eq_append_getElem hlt, hsz]; unfold opsN; rw [List.map_append]; rfl
      have HSN := hide hsn
      obtain ⟨j0, hj0, hy0, hy1, hy2⟩ := info_parts info_op
      have hlit : (wr.alloc (.cells #[.int .i64 0, .int .i64 (sz : Int)] 135)).heap[wr.heap.size]? = some (.cells #[.int .i64 0, .int .i64 (sz : Int)] 135 (0, 0)) := heap_alloc_new wr _
      have HLIT := hide hlit
      have hlo : Hid ((opsN (ss.take j)).length ≤ 16) := hide (by simp [opsN]; omega)
      clear hc hc0 hc1 hbb hsz hlit hsn
      go_wp2_with (at_builtin; refine wpList_app_two rfl (.tmp 12) (.tmp 15) w.heap.size 98 135 j0 _ 16 rfl Try.underlying98 hj0 hy0 hy1 hy2 rfl u3 (opsN (ss.take j)).length (opCells (opsN (ss.take j))) (some ⟨wr.heap.size, 0, none⟩) 1 1 [.int .i64 0, .int .i64 (sz : Int)] rfl rfl (by exact World.ownsRow.alloc ho.out _) rfl (fun _ => ⟨wr.heap.size, 0, rfl, fun n u hu => by rw [cell_of_row _ _ (0 + n) _ _ (0, 0) HLIT.out, Nat.zero_add]; simpa using hu⟩) (fun e => by cases e) (fun u hu => by simp at hu; rcases hu with rfl | rfl <;> rfl) (by have := hlo.out; unfold maxLen; omega) (by have := hlo.out; omega) (by have := hb.out.size; simp; omega) ?_)
      intro v6 w6 hown6 hgr6 hat6
      have hg6 : wr.grownBy w6 u3.ownBlock := grown_trans (World.grownBy_alloc wr _ _) hgr6
      have hno : ∀ i, u3.ownBlock = some i → w.heap.size ≤ i := fun i hi => (World.ownsRow.lt ho.out i hi).1
      have hO6 : OwnO w6 w.heap.size v6 (opsN (ss.take (j + 1))) := by
        rw [HSN.out]
        unfold OwnO
        rw [opCells_snoc, List.length_append]; exact hown6
      have H2 := hide hO6
      have H3 := hide (hb.out.grown hg6 hb.out.size hno)
      clear hown6 hgr6 hat6 hg6 hno hO6 hk0 ho hb
      go_wp2
      go_roundw
      case rel => exact ⟨j + 1, by omega, by go_num, H2, H3⟩
      case measure => simp [intOf]; omega
    · have hjl : j = ss.length := by omega
      subst hjl
      rw [List.take_length] at ho
      clear hlt
      go_wp2
      go_ret
      exact ⟨_, rfl, ho.out, hb.out⟩
/-- numbers as what is laid. -/
def nuV (ns : List Nat) : List VItem := ns.map fun N => ⟨N, .slice none 0 0, []⟩
theorem zip_nuV : ∀ {ss ns : List Nat}, ss.length = ns.length → fldV (ss.zip ns) = nuV ns
  | [], [], _ => rfl
  | s :: ss, n :: ns, h => by
    have := zip_nuV (ss := ss) (ns := ns) (by simpa using h)
    simp only [fldV, nuV, List.zip_cons_cons, List.map_cons] at this ⊢
    rw [this]
  | [], _ :: _, h => by simp at h
  | _ :: _, [], h => by simp at h
theorem zip_opsN : ∀ {ss ns : List Nat}, ss.length = ns.length → fldO (ss.zip ns) = opsN ss
  | [], [], _ => rfl
  | s :: ss, n :: ns, h => by
    have := zip_opsN (ss := ss) (ns := ns) (by simpa using h)
    simp only [fldO, opsN, List.zip_cons_cons, List.map_cons] at this ⊢
    rw [this]
  | [], _ :: _, h => by simp at h
  | _ :: _, [], h => by simp at h
set_option maxHeartbeats 2000000 in
theorem layN_any (w : World) (Av Al : Option Addr) (cv cl : Nat) (ns ss : List Nat) (ho : Ops w w.heap.size Al (opsN ss)) (ha : IntsAt w w.heap.size Av .u64 (ns.map fun s : Nat => (s : Int))) (hl : ns.length ≤ 16) (hsl : ss.length = ns.length) (hok : fldOk (ss.zip ns)) :
    Calls Try.prog 51 #[.slice Al ss.length cl, .slice Av ns.length cv] w fun e w' => ∃ A' c', e = .returned (.slice A' (fldB (ss.zip ns)).length c') ∧ OwnB w' w.heap.size (.slice A' (fldB (ss.zip ns)).length c') (fldB (ss.zip ns)) ∧ Below w.heap.size w w' := by
  have HL := hide hl
  have HA := hide ha
  have HOP := hide ho
  have HOK := hide hok
  have HSL := hide hsl
  clear ha hl ho hok hsl
  go_enter Try.func51, Try.ntmps51
  go_wp2
  go_loopw [5, 12] (fun v i wr => ∃ (j : Nat), j ≤ ns.length ∧ i = .int .i64 (j : Int) ∧ Hid (wr.ownsRow w.heap.size 108 2 v (nuV (ns.take j)).length (itemCells (nuV (ns.take j)))) ∧ Hid (Below w.heap.size w wr))
    (fun _ i _ => ns.length - (intOf i).toNat)
  case atStart => exact ⟨0, by omega, rfl, hide (World.ownsRow_nil _ _ _ _), hide (Below.refl _ _)⟩
  case round =>
    obtain ⟨j, hj, rfl, hv, hb⟩ := hrel
    by_cases hlt : j < ns.length
    · have hjb : j < 16 := by have := HL.out; omega
      obtain ⟨bb, off, rfl, hbb, hc⟩ := HA.out (by simp; omega)
      have hc0 := hc j (by simpa using hlt)
      obtain ⟨N, hNN⟩ : ∃ s, s = ns[j] := ⟨_, rfl⟩
      have hc1 : w.cell? ⟨bb, off + j, none⟩ = some (.int .u64 (N : Int)) := by rw [hc0, hNN]; simp
      have hk0 := (hb.out.cell (p := ⟨bb, off + j, none⟩) hbb).trans hc1
      have hsn : nuV (ns.take (j + 1)) = nuV (ns.take j) ++ [⟨N, .slice none 0 0, []⟩] := by
        rw [List.take_succ_eq_append_getElem hlt, hNN]; unfold nuV; rw [List.map_append]; rfl
      have HSN := hide hsn
      obtain ⟨i0, hi0, hz0, hz1, hz2⟩ := info_parts info_val
      have hlit : (wr.alloc (.cells #[.int .u64 (N : Int), .slice none 0 0] 108)).heap[wr.heap.size]? = some (.cells #[.int .u64 (N : Int), .slice none 0 0] 108 (0, 0)) := heap_alloc_new wr _
      have HLIT := hide hlit
      have hlo : Hid ((nuV (ns.take j)).length ≤ 16) := hide (by unfold nuV; rw [List.length_map, List.length_take]; omega)
      clear hc hc0 hc1 hbb hNN hlit hsn
      go_wp2_with (at_builtin; refine wpList_app_two rfl (.tmp 16) (.tmp 19) w.heap.size 105 108 i0 _ 32 rfl Try.underlying105 hi0 hz0 hz1 hz2 rfl u5 (nuV (ns.take j)).length (itemCells (nuV (ns.take j))) (some ⟨wr.heap.size, 0, none⟩) 1 1 [.int .u64 (N : Int), .slice none 0 0] rfl rfl (by exact World.ownsRow.alloc hv.out _) rfl (fun _ => ⟨wr.heap.size, 0, rfl, fun n u hu => by rw [cell_of_row _ _ (0 + n) _ _ (0, 0) HLIT.out, Nat.zero_add]; simpa using hu⟩) (fun e => by cases e) (fun u hu => by simp at hu; rcases hu with rfl | rfl <;> rfl) (by have := hlo.out; unfold maxLen; omega) (by have := hlo.out; omega) (by have := hb.out.size; simp; omega) ?_)
      intro v6 w6 hown6 hgr6 hat6
      have hg6 : wr.grownBy w6 u5.ownBlock := grown_trans (World.grownBy_alloc wr _ _) hgr6
      have hno : ∀ i, u5.ownBlock = some i → w.heap.size ≤ i := fun i hi => (World.ownsRow.lt hv.out i hi).1
      have hO6 : w6.ownsRow w.heap.size 108 2 v6 (nuV (ns.take (j + 1))).length (itemCells (nuV (ns.take (j + 1)))) := by
        rw [HSN.out, itemCells_snoc, List.length_append]; exact hown6
      have H2 := hide hO6
      have H3 := hide (hb.out.grown hg6 hb.out.size hno)
      clear hown6 hgr6 hat6 hg6 hno hO6 hk0 hv hb
      go_wp2
      go_roundw
      case rel => exact ⟨j + 1, by omega, by go_num, H2, H3⟩
      case measure => simp [intOf]; omega
    · have hjl : j = ns.length := by omega
      subst hjl
      rw [List.take_length] at hv
      obtain ⟨A5, c5, rfl, hrv⟩ := row_reads hv.out
      have hc : RdC wr wr.heap.size (nuV ns) := fun it hit => by
        unfold nuV at hit
        obtain ⟨f, hf, rfl⟩ := List.mem_map.1 hit
        exact ⟨none, 0, rfl, fun h => by simp at h, fun _ => rfl⟩
      have hle : (nuV ns).length = ns.length := by unfold nuV; rw [List.length_map]
      have hlo : (opsN ss).length = ss.length := by unfold opsN; rw [List.length_map]
      have hro : Ops wr wr.heap.size Al (opsN ss) := HOP.out.more hb.out.size hb.out
      have C := lay_any wr A5 Al c5 cl (nuV ns) (opsN ss) hrv hc hro (fldB (ss.zip ns), 0) (by
        have e := layR_fld (ss.zip ns) HOK.out (by have := HL.out; rw [List.length_zip]; omega)
        rw [zip_nuV HSL.out, zip_opsN HSL.out] at e
        exact e.symm)
      rw [hle, hlo] at C
      have HC := hide C
      have hB := hide hb.out
      rw [hle]
      clear hrv hc hro hv C hb hle hlo hlt
      go_wp2_with (go_at_call 84; (with_reducible refine (HC.out).mono ?_); rintro _ _ ⟨A7, c7, rfl, hown7, hb7⟩)
      go_ret
      exact ⟨A7, c7, rfl, hown7.base hB.out.size, hB.out.trans (hb7.mono hB.out.size)⟩
end Go.Proofs.Ytcagdcjikbkapaa
