import Derived.Test.YtihakjcccbionaaGreatDoorJa
import Derived.Test.YtihakjcccbionaaGreatDoorJm
import Derived.Test.YtihakjcccbionaaGreatDoorMih
section
/-
  Mathematics of segments: numbers read one behind the other; segments as words; sums.
-/
namespace Go.Proofs.YtihakjcccbionaaGreatDoor
open Go.RowKit
set_option linter.unusedVariables false
set_option linter.unusedSimpArgs false

/-- numbers of so many bytes each, from the k-th byte on. -/
def numsAt (l : List UInt8) : List Nat → Nat → List (Nat × List UInt8)
  | [], _ => []
  | s :: t, k => (nmB l k s, []) :: numsAt l t (k + s)
def opsN (ss : List Nat) : List (Int × Int) := ss.map fun s : Nat => ((0 : Int), (s : Int))
theorem runS_nums (l : List UInt8) : ∀ (ss : List Nat) (k : Nat), (∀ s ∈ ss, 1 ≤ s ∧ s ≤ 8) → k ≤ l.length →
    (k + ss.sum ≤ l.length → runS l (opsN ss) k = (numsAt l ss k, k + ss.sum, 0)) ∧ (l.length < k + ss.sum → (runS l (opsN ss) k).2.2 = 10)
  | [], k, _, hk => ⟨fun _ => by simp [opsN, runS, numsAt], fun h => by simp at h; omega⟩
  | s :: t, k, hs, hk => by
    obtain ⟨h1, h8⟩ := hs s (List.mem_cons_self ..)
    have ih := runS_nums l t (k + s) (fun x hx => hs x (List.mem_cons_of_mem _ hx))
    simp only [opsN, List.map_cons, runS, List.sum_cons]
    by_cases hf : (s : Int) ≤ (l.length : Int) - k
    · have e : pieceS l k 0 (s : Int) = .got (numS ((l.drop k).take s)) [] s := by
        unfold pieceS
        rw [if_pos rfl, if_pos (by omega), if_pos hf]
        simp
      rw [e]
      obtain ⟨i1, i2⟩ := ih (by omega)
      refine ⟨fun h => ?_, fun h => ?_⟩
      · have := i1 (by omega)
        simp only [opsN] at this
        simp only [this, numsAt, nmB]
        rw [Nat.add_assoc]
      · have := i2 (by omega)
        simp only [opsN] at this
        exact this
    · have e : pieceS l k 0 (s : Int) = .gave 10 := by
        unfold pieceS
        rw [if_pos rfl, if_pos (by omega), if_neg hf]
      rw [e]
      exact ⟨fun h => by omega, fun _ => rfl⟩

/-- a segment: its numbers, and where its lists are. -/
structure Sg where
  p : Int
  a : Int
  b : Int
  q : Nat
  k : Nat
  f : Int
  wn : Int
  u : Int
  ns : Bool
  ao : Option Addr
  no : Nat
  co : Nat
  ad : Option Addr
  nd : Nat
  cd : Nat
def sgL (s : Sg) : List Value := [.int .i64 s.p, .int .i64 s.a, .int .i64 s.b, .int .u32 (s.q : Int), .int .u32 (s.k : Int), .int .i64 s.f, .int .i64 s.wn, .int .i64 s.u, .bool s.ns, .slice s.ao s.no s.co, .slice s.ad s.nd s.cd]
structure SgV (X : Array Value) (s : Sg) : Prop where
  eq : X = (sgL s).toArray
  hq : s.q < 4294967296
  hk : s.k < 4294967296
theorem SgV.size {X : Array Value} {s : Sg} (x : SgV X s) : X.size = 11 := by rw [x.eq]; rfl
theorem SgV.x0 {X : Array Value} {s : Sg} (x : SgV X s) : X.extract 0 11 = X := by rw [← x.size]; simp
theorem SgV.one {X : Array Value} {s : Sg} (x : SgV X s) : allOne X = true := by rw [x.eq]; kernel_rfl
structure SgC (w : World) (g : Nat) (s : Sg) : Prop where
  c0 : w.cell? ⟨g, 0, none⟩ = some (.int .i64 s.p)
  c1 : w.cell? ⟨g, 1, none⟩ = some (.int .i64 s.a)
  c2 : w.cell? ⟨g, 2, none⟩ = some (.int .i64 s.b)
  c3 : w.cell? ⟨g, 3, none⟩ = some (.int .u32 (s.q : Int))
  c4 : w.cell? ⟨g, 4, none⟩ = some (.int .u32 (s.k : Int))
  c5 : w.cell? ⟨g, 5, none⟩ = some (.int .i64 s.f)
  c6 : w.cell? ⟨g, 6, none⟩ = some (.int .i64 s.wn)
  c7 : w.cell? ⟨g, 7, none⟩ = some (.int .i64 s.u)
  c8 : w.cell? ⟨g, 8, none⟩ = some (.bool s.ns)
  c9 : w.cell? ⟨g, 9, none⟩ = some (.slice s.ao s.no s.co)
  c10 : w.cell? ⟨g, 10, none⟩ = some (.slice s.ad s.nd s.cd)
theorem SgV.cells {X : Array Value} {s : Sg} (x : SgV X s) {w : World} {g : Nat} {ty : TypeId} (hg : w.heap[g]? = some (.cells X ty (0, 0))) : SgC w g s := by
  have h : ∀ j, w.cell? ⟨g, j, none⟩ = X[j]? := fun j => cell_of_row w g j X ty (0, 0) hg
  refine ⟨?_, ?_, ?_, ?_, ?_, ?_, ?_, ?_, ?_, ?_, ?_⟩ <;> rw [h, x.eq] <;> rfl

/-- the sum of a segment's bytes within a packet, whatever stands in its place. -/
def sumV (h : Ip) (b : List UInt8) (at' : Nat) : Nat :=
  if 65535 - addS (addS (pseS { h with nd := b.length }) (b.take at')) (b.drop (at' + 2)) = 0 ∧ h.p = 17 then 65535 else 65535 - addS (addS (pseS { h with nd := b.length }) (b.take at')) (b.drop (at' + 2))
theorem sumV_le (h : Ip) (b : List UInt8) (k : Nat) : sumV h b k ≤ 65535 := by unfold sumV; split <;> omega
theorem pseS_le (h : Ip) : pseS h ≤ 65535 := by unfold pseS; exact addS_le _ _ (addS_le _ _ (addS_le _ _ (by omega)))
end Go.Proofs.YtihakjcccbionaaGreatDoor

end
section
/-
  The walks of segment.pieces and segment.lay.
-/
namespace Go.Proofs.YtihakjcccbionaaGreatDoor
open Go.RowKit
set_option maxRecDepth 100000
set_option linter.unusedVariables false
set_option linter.unusedSimpArgs false

/-- the slice that begins at A reads, below block B, as these numbers. -/
def IntsAt (w : World) (B : Nat) (A : Option Addr) (k : IntKind) (l : List Int) : Prop :=
  0 < l.length → ∃ b off, A = some ⟨b, off, none⟩ ∧ b < B ∧ ∀ i (h : i < l.length), w.cell? ⟨b, off + i, none⟩ = some (.int k l[i])
theorem IntsAt.below {w w' : World} {B : Nat} {A : Option Addr} {k : IntKind} {l : List Int} (h : IntsAt w B A k l) (hb : Below B w w') : IntsAt w' B A k l := fun h0 => by
  obtain ⟨b, off, e, hlt, hc⟩ := h h0
  exact ⟨b, off, e, hlt, fun i hi => (hb.cell (p := ⟨b, off + i, none⟩) hlt).trans (hc i hi)⟩
theorem IntsAt.lit (w : World) (k : IntKind) (l : List Int) (cs : Array Value) (t : TypeId) (h : cs = (l.map fun z => Value.int k z).toArray) : IntsAt (w.alloc (.cells cs t)) (w.heap.size + 1) (some ⟨w.heap.size, 0, none⟩) k l := fun _ =>
  ⟨w.heap.size, 0, rfl, Nat.lt_succ_self _, fun i hi => by
    subst h
    rw [cell_of_row (w.alloc _) w.heap.size (0 + i) _ t (0, 0) (heap_alloc_new w _)]
    simp [hi]⟩

set_option maxHeartbeats 2000000 in
theorem piecesN_any (w : World) (A : Option Addr) (c : Nat) (ss : List Nat) (ha : IntsAt w w.heap.size A .i64 (ss.map fun s : Nat => (s : Int))) (hl : ss.length ≤ 16) :
    Calls Tryz.prog 93 #[.slice A ss.length c] w fun e w' => ∃ v, e = .returned v ∧ OwnO w' w.heap.size v (opsN ss) ∧ Below w.heap.size w w' := by
  have HL := hide hl
  have HA := hide ha
  clear ha hl
  go_enter Tryz.func93, Tryz.ntmps93
  go_wp2
  go_loopw [3, 8] (fun v i wr => ∃ (j : Nat), j ≤ ss.length ∧ i = .int .i64 (j : Int) ∧ Hid (OwnO wr w.heap.size v (opsN (ss.take j))) ∧ Hid (Below w.heap.size w wr))
    (fun _ i _ => ss.length - (intOf i).toNat)
  case atStart => exact ⟨0, by omega, rfl, hide (World.ownsRow_nil _ _ _ _), hide (Below.refl _ _)⟩
  case round =>
    obtain ⟨j, hj, rfl, ho, hb⟩ := hrel
    by_cases hlt : j < ss.length
    · have hjb : j < 16 := by have := HL.out; omega
      obtain ⟨bb, off, rfl, hbb, hc⟩ := HA.out (by simp; omega)
      have hc0 := hc j (by simpa using hlt)
      obtain ⟨sz, hsz⟩ : ∃ s, s = ss[j] := ⟨_, rfl⟩
      have hc1 : w.cell? ⟨bb, off + j, none⟩ = some (.int .i64 (sz : Int)) := by rw [hc0, hsz]; simp
      have hk0 := (hb.out.cell (p := ⟨bb, off + j, none⟩) hbb).trans hc1
      have HSZ := hide hsz
      have hsn : opsN (ss.take (j + 1)) = opsN (ss.take j) ++ [(0, (sz : Int))] := by
        rw [List.take_succ_eq_append_getElem hlt, hsz]; unfold opsN; rw [List.map_append]; rfl
      have HSN := hide hsn
      obtain ⟨j0, hj0, hy0, hy1, hy2⟩ := info_parts info_op
      have hlit : (wr.alloc (.cells #[.int .i64 0, .int .i64 (sz : Int)] 121)).heap[wr.heap.size]? = some (.cells #[.int .i64 0, .int .i64 (sz : Int)] 121 (0, 0)) := heap_alloc_new wr _
      have HLIT := hide hlit
      have hlo : Hid ((opsN (ss.take j)).length ≤ 16) := hide (by simp [opsN]; omega)
      clear hc hc0 hc1 hbb hsz hlit hsn
      go_wp2_with (at_builtin; refine wpList_app_two rfl (.tmp 12) (.tmp 15) w.heap.size 77 121 j0 _ 16 rfl Tryz.underlying77 hj0 hy0 hy1 hy2 rfl u3 (opsN (ss.take j)).length (opCells (opsN (ss.take j))) (some ⟨wr.heap.size, 0, none⟩) 1 1 [.int .i64 0, .int .i64 (sz : Int)] rfl rfl (by exact World.ownsRow.alloc ho.out _) rfl (fun _ => ⟨wr.heap.size, 0, rfl, fun n u hu => by rw [cell_of_row _ _ (0 + n) _ _ (0, 0) HLIT.out, Nat.zero_add]; simpa using hu⟩) (fun e => by cases e) (fun u hu => by simp at hu; rcases hu with rfl | rfl <;> rfl) (by have := hlo.out; unfold maxLen; omega) (by have := hlo.out; omega) (by have := hb.out.size; simp; omega) ?_)
      intro v6 w6 hown6 hgr6 hat6
      have hg6 : wr.grownBy w6 u3.ownBlock := grown_trans (World.grownBy_alloc wr _ _) hgr6
      have hno : ∀ i, u3.ownBlock = some i → w.heap.size ≤ i := fun i hi => (World.ownsRow.lt ho.out i hi).1
      have hO6 : OwnO w6 w.heap.size v6 (opsN (ss.take (j + 1))) := by
        rw [HSN.out]
        unfold OwnO
        rw [opCells_snoc, List.length_append]; exact hown6
      have H2 := hide hO6
      have H3 := hide (hb.out.grown hg6 hb.out.size hno)
      clear hown6 hgr6 hat6 hg6 hno hO6 hk0 ho hb
      go_wp2
      go_roundw
      case rel => exact ⟨j + 1, by omega, by go_num, H2, H3⟩
      case measure => simp [intOf]; omega
    · have hjl : j = ss.length := by omega
      subst hjl
      rw [List.take_length] at ho
      clear hlt
      go_wp2
      go_ret
      exact ⟨_, rfl, ho.out, hb.out⟩
/-- numbers as what is laid. -/
def nuV (ns : List Nat) : List VItem := ns.map fun N => ⟨N, .slice none 0 0, []⟩
theorem zip_nuV : ∀ {ss ns : List Nat}, ss.length = ns.length → fldV (ss.zip ns) = nuV ns
  | [], [], _ => rfl
  | s :: ss, n :: ns, h => by
    have := zip_nuV (ss := ss) (ns := ns) (by simpa using h)
    simp only [fldV, nuV, List.zip_cons_cons, List.map_cons] at this ⊢
    rw [this]
  | [], _ :: _, h => by simp at h
  | _ :: _, [], h => by simp at h
theorem zip_opsN : ∀ {ss ns : List Nat}, ss.length = ns.length → fldO (ss.zip ns) = opsN ss
  | [], [], _ => rfl
  | s :: ss, n :: ns, h => by
    have := zip_opsN (ss := ss) (ns := ns) (by simpa using h)
    simp only [fldO, opsN, List.zip_cons_cons, List.map_cons] at this ⊢
    rw [this]
  | [], _ :: _, h => by simp at h
  | _ :: _, [], h => by simp at h
set_option maxHeartbeats 2000000 in
theorem layN_any (w : World) (Av Al : Option Addr) (cv cl : Nat) (ns ss : List Nat) (ho : Ops w w.heap.size Al (opsN ss)) (ha : IntsAt w w.heap.size Av .u64 (ns.map fun s : Nat => (s : Int))) (hl : ns.length ≤ 16) (hsl : ss.length = ns.length) (hok : fldOk (ss.zip ns)) :
    Calls Tryz.prog 66 #[.slice Al ss.length cl, .slice Av ns.length cv] w fun e w' => ∃ A' c', e = .returned (.slice A' (fldB (ss.zip ns)).length c') ∧ OwnB w' w.heap.size (.slice A' (fldB (ss.zip ns)).length c') (fldB (ss.zip ns)) ∧ Below w.heap.size w w' := by
  have HL := hide hl
  have HA := hide ha
  have HOP := hide ho
  have HOK := hide hok
  have HSL := hide hsl
  clear ha hl ho hok hsl
  go_enter Tryz.func66, Tryz.ntmps66
  go_wp2
  go_loopw [5, 12] (fun v i wr => ∃ (j : Nat), j ≤ ns.length ∧ i = .int .i64 (j : Int) ∧ Hid (wr.ownsRow w.heap.size 120 2 v (nuV (ns.take j)).length (itemCells (nuV (ns.take j)))) ∧ Hid (Below w.heap.size w wr))
    (fun _ i _ => ns.length - (intOf i).toNat)
  case atStart => exact ⟨0, by omega, rfl, hide (World.ownsRow_nil _ _ _ _), hide (Below.refl _ _)⟩
  case round =>
    obtain ⟨j, hj, rfl, hv, hb⟩ := hrel
    by_cases hlt : j < ns.length
    · have hjb : j < 16 := by have := HL.out; omega
      obtain ⟨bb, off, rfl, hbb, hc⟩ := HA.out (by simp; omega)
      have hc0 := hc j (by simpa using hlt)
      obtain ⟨N, hNN⟩ : ∃ s, s = ns[j] := ⟨_, rfl⟩
      have hc1 : w.cell? ⟨bb, off + j, none⟩ = some (.int .u64 (N : Int)) := by rw [hc0, hNN]; simp
      have hk0 := (hb.out.cell (p := ⟨bb, off + j, none⟩) hbb).trans hc1
      have hsn : nuV (ns.take (j + 1)) = nuV (ns.take j) ++ [⟨N, .slice none 0 0, []⟩] := by
        rw [List.take_succ_eq_append_getElem hlt, hNN]; unfold nuV; rw [List.map_append]; rfl
      have HSN := hide hsn
      obtain ⟨i0, hi0, hz0, hz1, hz2⟩ := info_parts info_val
      have hlit : (wr.alloc (.cells #[.int .u64 (N : Int), .slice none 0 0] 120)).heap[wr.heap.size]? = some (.cells #[.int .u64 (N : Int), .slice none 0 0] 120 (0, 0)) := heap_alloc_new wr _
      have HLIT := hide hlit
      have hlo : Hid ((nuV (ns.take j)).length ≤ 16) := hide (by unfold nuV; rw [List.length_map, List.length_take]; omega)
      clear hc hc0 hc1 hbb hNN hlit hsn
      go_wp2_with (at_builtin; refine wpList_app_two rfl (.tmp 16) (.tmp 19) w.heap.size 76 120 i0 _ 32 rfl Tryz.underlying76 hi0 hz0 hz1 hz2 rfl u5 (nuV (ns.take j)).length (itemCells (nuV (ns.take j))) (some ⟨wr.heap.size, 0, none⟩) 1 1 [.int .u64 (N : Int), .slice none 0 0] rfl rfl (by exact World.ownsRow.alloc hv.out _) rfl (fun _ => ⟨wr.heap.size, 0, rfl, fun n u hu => by rw [cell_of_row _ _ (0 + n) _ _ (0, 0) HLIT.out, Nat.zero_add]; simpa using hu⟩) (fun e => by cases e) (fun u hu => by simp at hu; rcases hu with rfl | rfl <;> rfl) (by have := hlo.out; unfold maxLen; omega) (by have := hlo.out; omega) (by have := hb.out.size; simp; omega) ?_)
      intro v6 w6 hown6 hgr6 hat6
      have hg6 : wr.grownBy w6 u5.ownBlock := grown_trans (World.grownBy_alloc wr _ _) hgr6
      have hno : ∀ i, u5.ownBlock = some i → w.heap.size ≤ i := fun i hi => (World.ownsRow.lt hv.out i hi).1
      have hO6 : w6.ownsRow w.heap.size 120 2 v6 (nuV (ns.take (j + 1))).length (itemCells (nuV (ns.take (j + 1)))) := by
        rw [HSN.out, itemCells_snoc, List.length_append]; exact hown6
      have H2 := hide hO6
      have H3 := hide (hb.out.grown hg6 hb.out.size hno)
      clear hown6 hgr6 hat6 hg6 hno hO6 hk0 hv hb
      go_wp2
      go_roundw
      case rel => exact ⟨j + 1, by omega, by go_num, H2, H3⟩
      case measure => simp [intOf]; omega
    · have hjl : j = ns.length := by omega
      subst hjl
      rw [List.take_length] at hv
      obtain ⟨A5, c5, rfl, hrv⟩ := row_reads hv.out
      have hc : RdC wr wr.heap.size (nuV ns) := fun it hit => by
        unfold nuV at hit
        obtain ⟨f, hf, rfl⟩ := List.mem_map.1 hit
        exact ⟨none, 0, rfl, fun h => by simp at h, fun _ => rfl⟩
      have hle : (nuV ns).length = ns.length := by unfold nuV; rw [List.length_map]
      have hlo : (opsN ss).length = ss.length := by unfold opsN; rw [List.length_map]
      have hro : Ops wr wr.heap.size Al (opsN ss) := HOP.out.more hb.out.size hb.out
      have C := lay_any wr A5 Al c5 cl (nuV ns) (opsN ss) hrv hc hro (fldB (ss.zip ns), 0) (by
        have e := layR_fld (ss.zip ns) HOK.out (by have := HL.out; rw [List.length_zip]; omega)
        rw [zip_nuV HSL.out, zip_opsN HSL.out] at e
        exact e.symm)
      rw [hle, hlo] at C
      have HC := hide C
      have hB := hide hb.out
      rw [hle]
      clear hrv hc hro hv C hb hle hlo hlt
      go_wp2_with (go_at_call 30; (with_reducible refine (HC.out).mono ?_); rintro _ _ ⟨A7, c7, rfl, hown7, hb7⟩)
      go_ret
      exact ⟨A7, c7, rfl, hown7.base hB.out.size, hB.out.trans (hb7.mono hB.out.size)⟩
end Go.Proofs.YtihakjcccbionaaGreatDoor

end
section
/-
  The walks of segment.upTo, right, size, sumAt.
-/
namespace Go.Proofs.YtihakjcccbionaaGreatDoor
open Go.RowKit
attribute [local go_sem ↓] exec_span exec_put exec_build heap_alloc_new heap_old
attribute [local go_sem] spanQ_ptr spanC_some heap_of_drew heap_of_drewN rs_arr rs_ad rs_ip rs_rip putAt_ptr putOk_ptr oldOk_some World.setRow_alloc_new
set_option maxRecDepth 100000
set_option linter.unusedVariables false
set_option linter.unusedSimpArgs false

theorem rs_seg : rowSize Tryz.prog 55 = some 11 := by kernel_rfl
attribute [local go_sem] rs_seg
/-- are all numbers from 0 to most? -/
def upL (most : Int) (l : List Int) : Bool := l.all fun n => decide (0 ≤ n) && decide (n ≤ most)
theorem upL_bad {most : Int} {l : List Int} {j : Nat} (h : j < l.length) (hb : l[j] < 0 ∨ most < l[j]) : upL most l = false := by
  unfold upL
  rw [List.all_eq_false]
  exact ⟨l[j], List.getElem_mem h, by simp; omega⟩
theorem upL_good {most : Int} {l : List Int} (h : ∀ j (hj : j < l.length), 0 ≤ l[j] ∧ l[j] ≤ most) : upL most l = true := by
  unfold upL
  rw [List.all_eq_true]
  intro x hx
  obtain ⟨j, hj, rfl⟩ := List.getElem_of_mem hx
  simp [h j hj]

set_option maxHeartbeats 1000000 in
theorem upTo_any (w : World) (most : Int) (A : Option Addr) (c : Nat) (l : List Int) (ha : IntsAt w w.heap.size A .i64 l) (hl : l.length ≤ 16) :
    Calls Tryz.prog 65 #[.int .i64 most, .slice A l.length c] w fun e w' => e = .returned (.bool (upL most l)) ∧ w = w' := by
  obtain ⟨R, hR⟩ : ∃ R, R = upL most l := ⟨_, rfl⟩
  rw [← hR]
  have HR := hide hR
  have HA := hide ha
  have HL := hide hl
  clear hR ha hl
  go_enter Tryz.func65, Tryz.ntmps65
  go_wp2
  go_loopw [9] (fun i wr => ∃ (j : Nat), j ≤ l.length ∧ i = .int .i64 (j : Int) ∧ wr = w ∧ Hid (∀ k (hk : k < l.length), k < j → 0 ≤ l[k] ∧ l[k] ≤ most))
    (fun i _ => l.length - (intOf i).toNat)
  case atStart => exact ⟨0, by omega, rfl, rfl, hide (fun k hk h => by omega)⟩
  case round =>
    obtain ⟨j, hj, rfl, rfl, hg⟩ := hrel
    by_cases hlt : j < l.length
    · have hjb : j < 16 := by have := HL.out; omega
      obtain ⟨bb, off, rfl, hbb, hc⟩ := HA.out (by omega)
      have hc0 := hc j hlt
      obtain ⟨n, hn⟩ : ∃ n, n = l[j] := ⟨_, rfl⟩
      rw [← hn] at hc0
      have HN := hide hn
      clear hc hbb hn
      by_cases h0 : n < 0
      · have hf : Hid (R = false) := hide (by rw [HR.out]; exact upL_bad hlt (.inl (by rw [← HN.out]; exact h0)))
        go_wp2
        go_ret
        exact ⟨ret_b hf.out.symm, rfl⟩
      · by_cases h1 : most < n
        · have hf : Hid (R = false) := hide (by rw [HR.out]; exact upL_bad hlt (.inr (by rw [← HN.out]; exact h1)))
          go_wp2
          go_ret
          exact ⟨ret_b hf.out.symm, rfl⟩
        · have hg2 : Hid (∀ k (hk : k < l.length), k < j + 1 → 0 ≤ l[k] ∧ l[k] ≤ most) := hide (fun k hk h => by
            by_cases e : k = j
            · subst e; rw [← HN.out]; omega
            · exact hg.out k hk (by omega))
          clear hg
          go_wp2
          go_roundw
          case rel => exact ⟨j + 1, by omega, by go_num, by first | rfl | trivial, hg2⟩
          case measure => simp [intOf]; omega
    · have hf : Hid (R = true) := hide (by rw [HR.out]; exact upL_good fun k hk => hg.out k hk (by omega))
      have hjl : j = l.length := by omega
      subst hjl
      clear hlt hg
      go_wp2
      go_ret
      exact ⟨ret_b hf.out.symm, rfl⟩

set_option maxHeartbeats 1000000 in
theorem sumAt_any (w : World) (p : Int) : Calls Tryz.prog 35 #[.int .i64 p] w fun e w' => e = .returned (.int .i64 (if p = 6 then 16 else 6)) ∧ w = w' := by
  by_cases hp : p = 6
  · subst hp
    go_enter Tryz.func35, Tryz.ntmps35
    go_wp2
    go_ret
    exact ⟨rfl, rfl⟩
  · have e : (p == 6) = false := by simpa using hp
    rw [if_neg hp]
    clear hp
    go_enter Tryz.func35, Tryz.ntmps35
    go_wp2
    go_ret
    exact ⟨rfl, rfl⟩

set_option maxHeartbeats 1000000 in
theorem sizeS_any (w : World) (X : Array Value) (s : Sg) (x : SgV X s) (hn : s.no ≤ 140737488355328) (hd : s.nd ≤ 140737488355328) :
    Calls Tryz.prog 32 #[.agg X] w fun e w' => e = .returned (.int .i64 (if s.p = 6 then 20 + (s.no : Int) + (s.nd : Int) else 8 + (s.nd : Int))) ∧ Below w.heap.size w w' := by
  have hxs := x.size
  obtain ⟨W, hW, h1, hz, hb⟩ := one_block w (.cells X 55)
  obtain ⟨c0, -, -, -, -, -, -, -, -, c9, c10⟩ := x.cells h1
  have HB := hide hb
  clear hz hb h1 x hxs
  have w1 : IntKind.i64.wrap (20 + (s.no : Int)) = 20 + (s.no : Int) := IntWalk.i64_in _ (by omega)
  have w2 : IntKind.i64.wrap (20 + (s.no : Int) + (s.nd : Int)) = 20 + (s.no : Int) + (s.nd : Int) := IntWalk.i64_in _ (by omega)
  have w3 : IntKind.i64.wrap (8 + (s.nd : Int)) = 8 + (s.nd : Int) := IntWalk.i64_in _ (by omega)
  obtain ⟨p, hp⟩ : ∃ p, p = s.p := ⟨_, rfl⟩
  rw [← hp] at c0 ⊢
  clear hp
  by_cases h6 : p = 6
  · subst h6
    go_enter Tryz.func32, Tryz.ntmps32
    go_wp2
    go_ret
    exact ⟨rfl, HB.out⟩
  · have e : (p == 6) = false := by simpa using h6
    rw [if_neg h6]
    clear h6
    go_enter Tryz.func32, Tryz.ntmps32
    go_wp2
    go_ret
    exact ⟨rfl, HB.out⟩

/-- can it be, within a packet of four? -/
def rightS (s : Sg) : Bool :=
  upL 65535 [s.a, s.b] && (if s.p = 6 then upL 255 [s.f] && upL 65535 [s.wn, s.u] && decide (s.no ≤ 40) && s.no % 4 == 0 && !s.ns
    else s.q == 0 && s.k == 0 && upL 0 [s.f, s.wn, s.u] && s.no == 0)

theorem upLit_any (W1 : World) (most : Int) (l : List Int) (n : Nat) (cs : Array Value) (hcs : cs = (l.map fun z => Value.int .i64 z).toArray) (hn : n = l.length) (hl : l.length ≤ 16) :
    Calls Tryz.prog 65 #[.int .i64 most, .slice (some ⟨W1.heap.size, 0, none⟩) n n] (W1.alloc (.cells cs 3)) fun e w' => e = .returned (.bool (upL most l)) ∧ Below W1.heap.size W1 w' := by
  subst hn
  have h := upTo_any (W1.alloc (.cells cs 3)) most (some ⟨W1.heap.size, 0, none⟩) l.length l (by
    have := IntsAt.lit W1 .i64 l cs 3 hcs
    rwa [show (W1.alloc (.cells cs 3)).heap.size = W1.heap.size + 1 by simp]) hl
  exact h.mono fun e w' ⟨h1, h2⟩ => ⟨h1, by rw [← h2]; exact (Below.refl _ _).alloc (Nat.le_refl _) _⟩

set_option maxHeartbeats 8000000 in
theorem rightS_any (w : World) (X : Array Value) (s : Sg) (x : SgV X s) (hn : s.no ≤ 140737488355328) :
    Calls Tryz.prog 31 #[.agg X] w fun e w' => e = .returned (.bool (rightS s)) ∧ Below w.heap.size w w' := by
  have hxs := x.size
  obtain ⟨W, hW, h1, hz, hb⟩ := one_block w (.cells X 55)
  have U1 := upLit_any W 65535 [s.a, s.b] 2 #[.int .i64 s.a, .int .i64 s.b] rfl rfl (by simp)
  have ea : (⟨W.heap.size, 0, none⟩ : Addr) = ⟨w.heap.size + 1, 0, none⟩ := by rw [hz]
  rw [ea] at U1
  have U1 := hide U1
  have U2 := hide (fun W1 => upLit_any W1 255 [s.f] 1 #[.int .i64 s.f] rfl rfl (by simp))
  have U3 := hide (fun W1 => upLit_any W1 65535 [s.wn, s.u] 2 #[.int .i64 s.wn, .int .i64 s.u] rfl rfl (by simp))
  have U4 := hide (fun W1 => upLit_any W1 0 [s.f, s.wn, s.u] 3 #[.int .i64 s.f, .int .i64 s.wn, .int .i64 s.u] rfl rfl (by simp))
  obtain ⟨r1, hr1⟩ : ∃ r, r = upL 65535 [s.a, s.b] := ⟨_, rfl⟩
  obtain ⟨r2, hr2⟩ : ∃ r, r = upL 255 [s.f] := ⟨_, rfl⟩
  obtain ⟨r3, hr3⟩ : ∃ r, r = upL 65535 [s.wn, s.u] := ⟨_, rfl⟩
  obtain ⟨r4, hr4⟩ : ∃ r, r = upL 0 [s.f, s.wn, s.u] := ⟨_, rfl⟩
  obtain ⟨R, hR⟩ : ∃ R, R = rightS s := ⟨_, rfl⟩
  rw [← hr1] at U1
  rw [← hr2] at U2
  rw [← hr3] at U3
  rw [← hr4] at U4
  rw [← hR]
  obtain ⟨p, hp⟩ : ∃ v, v = s.p := ⟨_, rfl⟩
  obtain ⟨q, hq⟩ : ∃ v, v = s.q := ⟨_, rfl⟩
  obtain ⟨k, hk⟩ : ∃ v, v = s.k := ⟨_, rfl⟩
  obtain ⟨no, hno⟩ : ∃ v, v = s.no := ⟨_, rfl⟩
  obtain ⟨ns, hns⟩ : ∃ v, v = s.ns := ⟨_, rfl⟩
  have HR : R = (r1 && (if p = 6 then r2 && r3 && decide (no ≤ 40) && no % 4 == 0 && !ns else q == 0 && k == 0 && r4 && no == 0)) := by
    rw [hR, hr1, hr2, hr3, hr4, hp, hq, hk, hno, hns]; rfl
  have HC : Hid (∀ w', Below W.heap.size W w' → w'.cell? ⟨w.heap.size, 0, none⟩ = some (.int .i64 p) ∧ w'.cell? ⟨w.heap.size, 1, none⟩ = some (.int .i64 s.a) ∧ w'.cell? ⟨w.heap.size, 2, none⟩ = some (.int .i64 s.b) ∧ w'.cell? ⟨w.heap.size, 3, none⟩ = some (.int .u32 (q : Int)) ∧ w'.cell? ⟨w.heap.size, 4, none⟩ = some (.int .u32 (k : Int)) ∧ w'.cell? ⟨w.heap.size, 5, none⟩ = some (.int .i64 s.f) ∧ w'.cell? ⟨w.heap.size, 6, none⟩ = some (.int .i64 s.wn) ∧ w'.cell? ⟨w.heap.size, 7, none⟩ = some (.int .i64 s.u) ∧ w'.cell? ⟨w.heap.size, 8, none⟩ = some (.bool ns) ∧ w'.cell? ⟨w.heap.size, 9, none⟩ = some (.slice s.ao no s.co)) := by
    rw [hp, hq, hk, hno, hns]
    exact hide fun w' hb => by
      have c := x.cells (row_kept hb (by omega) h1)
      exact ⟨c.c0, c.c1, c.c2, c.c3, c.c4, c.c5, c.c6, c.c7, c.c8, c.c9⟩
  rw [← hno] at hn
  obtain ⟨c0, c1, c2, c3, c4, c5, c6, c7, c8, c9⟩ := HC.out W (Below.refl _ _)
  have hB := hide hb
  have hz := hide hz
  clear hr1 hr2 hr3 hr4 hp hq hk hno hns hb x hR h1 ea
  have key : (r1 = false ∧ R = false) ∨ (r1 = true ∧ p = 6 ∧ r2 = false ∧ R = false) ∨ (r1 = true ∧ p = 6 ∧ r2 = true ∧ r3 = false ∧ R = false) ∨ (r1 = true ∧ p = 6 ∧ r2 = true ∧ r3 = true ∧ ¬ (no : Int) ≤ 40 ∧ R = false)
    ∨ (r1 = true ∧ p = 6 ∧ r2 = true ∧ r3 = true ∧ (no : Int) ≤ 40 ∧ ((no : Int) % 4 == 0) = false ∧ R = false) ∨ (r1 = true ∧ p = 6 ∧ r2 = true ∧ r3 = true ∧ (no : Int) ≤ 40 ∧ ((no : Int) % 4 == 0) = true ∧ (!ns) = R)
    ∨ (r1 = true ∧ (p == 6) = false ∧ ((q : Int) == 0) = false ∧ R = false) ∨ (r1 = true ∧ (p == 6) = false ∧ q = 0 ∧ ((k : Int) == 0) = false ∧ R = false) ∨ (r1 = true ∧ (p == 6) = false ∧ q = 0 ∧ k = 0 ∧ r4 = false ∧ R = false)
    ∨ (r1 = true ∧ (p == 6) = false ∧ q = 0 ∧ k = 0 ∧ r4 = true ∧ ((no : Int) == 0) = R) := by
    rw [HR]
    clear HR U1 U2 U3 U4 HC c0 c1 c2 c3 c4 c5 c6 c7 c8 c9
    have n4 : ((no : Int) % 4 == 0) = (no % 4 == 0) := by
      rw [Bool.eq_iff_iff]; simp; omega
    have n0 : ((no : Int) == 0) = (no == 0) := by rw [Bool.eq_iff_iff]; simp
    have nq : ((q : Int) == 0) = (q == 0) := by rw [Bool.eq_iff_iff]; simp
    have nk : ((k : Int) == 0) = (k == 0) := by rw [Bool.eq_iff_iff]; simp
    rw [n4, n0, nq, nk]
    by_cases h6 : p = 6
    · subst h6
      by_cases h40 : no ≤ 40 <;> by_cases hm : no % 4 = 0 <;> cases r1 <;> cases r2 <;> cases r3 <;> cases ns <;> simp [h40, hm] <;> omega
    · by_cases hq0 : q = 0 <;> by_cases hk0 : k = 0 <;> by_cases hn0 : no = 0 <;> cases r1 <;> cases r4 <;> simp [h6, hq0, hk0, hn0]
  clear HR
  rcases key with ⟨rfl, rfl⟩ | ⟨rfl, rfl, rfl, rfl⟩ | ⟨rfl, rfl, rfl, rfl, rfl⟩ | ⟨rfl, rfl, rfl, rfl, q1, rfl⟩ | ⟨rfl, rfl, rfl, rfl, q1, q2, rfl⟩ | ⟨rfl, rfl, rfl, rfl, q1, q2, rfl⟩ | ⟨rfl, q0, q1, rfl⟩ | ⟨rfl, q0, rfl, q1, rfl⟩ | ⟨rfl, q0, rfl, rfl, rfl, rfl⟩ | ⟨rfl, q0, rfl, rfl, rfl, q1⟩
  all_goals (
    go_enter Tryz.func31, Tryz.ntmps31
    go_wp2_with (first
      | (go_at_call 65; (with_reducible refine U1.out.mono ?_); rintro e w1 ⟨rfl, b1⟩; have BB : Hid (Below W.heap.size W w1) := hide b1; obtain ⟨d0, d1, d2, d3, d4, d5, d6, d7, d8, d9⟩ := HC.out w1 BB.out; clear b1 c0 c1 c2 c3 c4 c5 c6 c7 c8 c9)
      | (go_at_call 65; (with_reducible refine (U2.out _).mono ?_); rintro e w2 ⟨rfl, b2⟩; have BB : Hid (Below W.heap.size W w2) := hide (BB.out.trans (b2.mono BB.out.size)); obtain ⟨e0, e1, e2, e3, e4, e5, e6, e7, e8, e9⟩ := HC.out w2 BB.out; clear b2 d0 d1 d2 d3 d4 d5 d6 d7 d8 d9)
      | (go_at_call 65; (with_reducible refine (U3.out _).mono ?_); rintro e w3 ⟨rfl, b3⟩; have BB : Hid (Below W.heap.size W w3) := hide (BB.out.trans (b3.mono BB.out.size)); obtain ⟨f0, f1, f2, f3, f4, f5, f6, f7, f8, f9⟩ := HC.out w3 BB.out; clear b3 e0 e1 e2 e3 e4 e5 e6 e7 e8 e9)
      | (go_at_call 65; (with_reducible refine (U4.out _).mono ?_); rintro e w2 ⟨rfl, b2⟩; have BB : Hid (Below W.heap.size W w2) := hide (BB.out.trans (b2.mono BB.out.size)); obtain ⟨e0, e1, e2, e3, e4, e5, e6, e7, e8, e9⟩ := HC.out w2 BB.out; clear b2 d0 d1 d2 d3 d4 d5 d6 d7 d8 d9)
      | fail)
    go_ret
    exact ⟨ret_b (by first | rfl | assumption | (simp [*]; done)), hB.out.trans (BB.out.mono (by have := hz.out; omega))⟩)
end Go.Proofs.YtihakjcccbionaaGreatDoor

end
