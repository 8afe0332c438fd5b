import Derived.Test.YtdlilokmfekndaaJa
import Derived.Test.YtdlilokmfekndaaJm
import Derived.Test.YtdlilokmfekndaaMih
section
/-
  Mathematics of segments: numbers read one behind the other; segments as words; sums.
-/
namespace Go.Proofs.Ytdlilokmfekndaa
open Go.RowKit
set_option linter.unusedVariables false
set_option linter.unusedSimpArgs false

/-- numbers of so many bytes each, from the k-th byte on. -/
def numsAt (l : List UInt8) : List Nat → Nat → List (Nat × List UInt8)
  | [], _ => []
  | s :: t, k => (nmB l k s, []) :: numsAt l t (k + s)
def opsN (ss : List Nat) : List (Int × Int) := ss.map fun s : Nat => ((0 : Int), (s : Int))
theorem runS_nums (l : List UInt8) : ∀ (ss : List Nat) (k : Nat), (∀ s ∈ ss, 1 ≤ s ∧ s ≤ 8) → k ≤ l.length →
    (k + ss.sum ≤ l.length → runS l (opsN ss) k = (numsAt l ss k, k + ss.sum, 0)) ∧ (l.length < k + ss.sum → (runS l (opsN ss) k).2.2 = 10)
  | [], k, _, hk => ⟨fun _ => by simp [opsN, runS, numsAt], fun h => by simp at h; omega⟩
  | s :: t, k, hs, hk => by
    obtain ⟨h1, h8⟩ := hs s (List.mem_cons_self ..)
    have ih := runS_nums l t (k + s) (fun x hx => hs x (List.mem_cons_of_mem _ hx))
    simp only [opsN, List.map_cons, runS, List.sum_cons]
    by_cases hf : (s : Int) ≤ (l.length : Int) - k
    · have e : pieceS l k 0 (s : Int) = .got (numS ((l.drop k).take s)) [] s := by
        unfold pieceS
        rw [if_pos rfl, if_pos (by omega), if_pos hf]
        simp
      rw [e]
      obtain ⟨i1, i2⟩ := ih (by omega)
      refine ⟨fun h => ?_, fun h => ?_⟩
      · have := i1 (by omega)
        simp only [opsN] at this
        simp only [this, numsAt, nmB]
        rw [Nat.add_assoc]
      · have := i2 (by omega)
        simp only [opsN] at this
        exact this
    · have e : pieceS l k 0 (s : Int) = .gave 10 := by
        unfold pieceS
        rw [if_pos rfl, if_pos (by omega), if_neg hf]
      rw [e]
      exact ⟨fun h => by omega, fun _ => rfl⟩

/-- a segment: its numbers, and where its lists are. -/
structure Sg where
  p : Int
  a : Int
  b : Int
  q : Nat
  k : Nat
  f : Int
  wn : Int
  u : Int
  ns : Bool
  ao : Option Addr
  no : Nat
  co : Nat
  ad : Option Addr
  nd : Nat
  cd : Nat
def sgL (s : Sg) : List Value := [.int .i64 s.p, .int .i64 s.a, .int .i64 s.b, .int .u32 (s.q : Int), .int .u32 (s.k : Int), .int .i64 s.f, .int .i64 s.wn, .int .i64 s.u, .bool s.ns, .slice s.ao s.no s.co, .slice s.ad s.nd s.cd]
structure SgV (X : Array Value) (s : Sg) : Prop where
  eq : X = (sgL s).toArray
  hq : s.q < 4294967296
  hk : s.k < 4294967296
theorem SgV.size {X : Array Value} {s : Sg} (x : SgV X s) : X.size = 11 := by rw [x.eq]; rfl
theorem SgV.x0 {X : Array Value} {s : Sg} (x : SgV X s) : X.extract 0 11 = X := by rw [← x.size]; simp
theorem SgV.one {X : Array Value} {s : Sg} (x : SgV X s) : allOne X = true := by rw [x.eq]; kernel_rfl
structure SgC (w : World) (g : Nat) (s : Sg) : Prop where
  c0 : w.cell? ⟨g, 0, none⟩ = some (.int .i64 s.p)
  c1 : w.cell? ⟨g, 1, none⟩ = some (.int .i64 s.a)
  c2 : w.cell? ⟨g, 2, none⟩ = some (.int .i64 s.b)
  c3 : w.cell? ⟨g, 3, none⟩ = some (.int .u32 (s.q : Int))
  c4 : w.cell? ⟨g, 4, none⟩ = some (.int .u32 (s.k : Int))
  c5 : w.cell? ⟨g, 5, none⟩ = some (.int .i64 s.f)
  c6 : w.cell? ⟨g, 6, none⟩ = some (.int .i64 s.wn)
  c7 : w.cell? ⟨g, 7, none⟩ = some (.int .i64 s.u)
  c8 : w.cell? ⟨g, 8, none⟩ = some (.bool s.ns)
  c9 : w.cell? ⟨g, 9, none⟩ = some (.slice s.ao s.no s.co)
  c10 : w.cell? ⟨g, 10, none⟩ = some (.slice s.ad s.nd s.cd)
theorem SgV.cells {X : Array Value} {s : Sg} (x : SgV X s) {w : World} {g : Nat} {ty : TypeId} (hg : w.heap[g]? = some (.cells X ty (0, 0))) : SgC w g s := by
  have h : ∀ j, w.cell? ⟨g, j, none⟩ = X[j]? := fun j => cell_of_row w g j X ty (0, 0) hg
  refine ⟨?_, ?_, ?_, ?_, ?_, ?_, ?_, ?_, ?_, ?_, ?_⟩ <;> rw [h, x.eq] <;> rfl

/-- the sum of a segment's bytes within a packet, whatever stands in its place. -/
def sumV (h : Ip) (b : List UInt8) (at' : Nat) : Nat :=
  if 65535 - addS (addS (pseS { h with nd := b.length }) (b.take at')) (b.drop (at' + 2)) = 0 ∧ h.p = 17 then 65535 else 65535 - addS (addS (pseS { h with nd := b.length }) (b.take at')) (b.drop (at' + 2))
theorem sumV_le (h : Ip) (b : List UInt8) (k : Nat) : sumV h b k ≤ 65535 := by unfold sumV; split <;> omega
theorem pseS_le (h : Ip) : pseS h ≤ 65535 := by unfold pseS; exact addS_le _ _ (addS_le _ _ (addS_le _ _ (by omega)))
end Go.Proofs.Ytdlilokmfekndaa

end
section
/-
  The walks of segment.pieces and segment.lay.
-/
namespace Go.Proofs.Ytdlilokmfekndaa
open Go.RowKit
set_option maxRecDepth 100000
set_option linter.unusedVariables false
set_option linter.unusedSimpArgs false

/-- the slice that begins at A reads, below block B, as these numbers. -/
def IntsAt (w : World) (B : Nat) (A : Option Addr) (k : IntKind) (l : List Int) : Prop :=
  0 < l.length → ∃ b off, A = some ⟨b, off, none⟩ ∧ b < B ∧ ∀ i (h : i < l.length), w.cell? ⟨b, off + i, none⟩ = some (.int k l[i])
theorem IntsAt.below {w w' : World} {B : Nat} {A : Option Addr} {k : IntKind} {l : List Int} (h : IntsAt w B A k l) (hb : Below B w w') : IntsAt w' B A k l := fun h0 => by
  obtain ⟨b, off, e, hlt, hc⟩ := h h0
  exact ⟨b, off, e, hlt, fun i hi => (hb.cell (p := ⟨b, off + i, none⟩) hlt).trans (hc i hi)⟩
theorem IntsAt.lit (w : World) (k : IntKind) (l : List Int) (cs : Array Value) (t : TypeId) (h : cs = (l.map fun z => Value.int k z).toArray) : IntsAt (w.alloc (.cells cs t)) (w.heap.size + 1) (some ⟨w.heap.size, 0, none⟩) k l := fun _ =>
  ⟨w.heap.size, 0, rfl, Nat.lt_succ_self _, fun i hi => by
    subst h
    rw [cell_of_row (w.alloc _) w.heap.size (0 + i) _ t (0, 0) (heap_alloc_new w _)]
    simp [hi]⟩

set_option maxHeartbeats 2000000 in
theorem piecesN_any (w : World) (A : Option Addr) (c : Nat) (ss : List Nat) (ha : IntsAt w w.heap.size A .i64 (ss.map fun s : Nat => (s : Int))) (hl : ss.length ≤ 16) :
    Calls Try.prog 68 #[.slice A ss.length c] w fun e w' => ∃ v, e = .returned v ∧ OwnO w' w.heap.size v (opsN ss) ∧ Below w.heap.size w w' := by
  have HL := hide hl
  have HA := hide ha
  clear ha hl
  go_enter Try.func68, Try.ntmps68
  go_wp2
  go_loopw [3, 8] (fun v i wr => ∃ (j : Nat), j ≤ ss.length ∧ i = .int .i64 (j : Int) ∧ Hid (OwnO wr w.heap.size v (opsN (ss.take j))) ∧ Hid (Below w.heap.size w wr))
    (fun _ i _ => ss.length - (intOf i).toNat)
  case atStart => exact ⟨0, by omega, rfl, hide (World.ownsRow_nil _ _ _ _), hide (Below.refl _ _)⟩
  case round =>
    obtain ⟨j, hj, rfl, ho, hb⟩ := hrel
    by_cases hlt : j < ss.length
    · have hjb : j < 16 := by have := HL.out; omega
      obtain ⟨bb, off, rfl, hbb, hc⟩ := HA.out (by simp; omega)
      have hc0 := hc j (by simpa using hlt)
      obtain ⟨sz, hsz⟩ : ∃ s, s = ss[j] := ⟨_, rfl⟩
      have hc1 : w.cell? ⟨bb, off + j, none⟩ = some (.int .i64 (sz : Int)) := by rw [hc0, hsz]; simp
      have hk0 := (hb.out.cell (p := ⟨bb, off + j, none⟩) hbb).trans hc1
      have HSZ := hide hsz
      have hsn : opsN (ss.take (j + 1)) = opsN (ss.take j) ++ [(0, (sz : Int))] := by
        rw [List.take_succ_eq_append_getElem hlt, hsz]; unfold opsN; rw [List.map_append]; rfl
      have HSN := hide hsn
      obtain ⟨j0, hj0, hy0, hy1, hy2⟩ := info_parts info_op
      have hlit : (wr.alloc (.cells #[.int .i64 0, .int .i64 (sz : Int)] 117)).heap[wr.heap.size]? = some (.cells #[.int .i64 0, .int .i64 (sz : Int)] 117 (0, 0)) := heap_alloc_new wr _
      have HLIT := hide hlit
      have hlo : Hid ((opsN (ss.take j)).length ≤ 16) := hide (by simp [opsN]; omega)
      clear hc hc0 hc1 hbb hsz hlit hsn
      go_wp2_with (at_builtin; refine wpList_app_two rfl (.tmp 12) (.tmp 15) w.heap.size 89 117 j0 _ 16 rfl Try.underlying89 hj0 hy0 hy1 hy2 rfl u3 (opsN (ss.take j)).length (opCells (opsN (ss.take j))) (some ⟨wr.heap.size, 0, none⟩) 1 1 [.int .i64 0, .int .i64 (sz : Int)] rfl rfl (by exact World.ownsRow.alloc ho.out _) rfl (fun _ => ⟨wr.heap.size, 0, rfl, fun n u hu => by rw [cell_of_row _ _ (0 + n) _ _ (0, 0) HLIT.out, Nat.zero_add]; simpa using hu⟩) (fun e => by cases e) (fun u hu => by simp at hu; rcases hu with rfl | rfl <;> rfl) (by have := hlo.out; unfold maxLen; omega) (by have := hlo.out; omega) (by have := hb.out.size; simp; omega) ?_)
      intro v6 w6 hown6 hgr6 hat6
      have hg6 : wr.grownBy w6 u3.ownBlock := grown_trans (World.grownBy_alloc wr _ _) hgr6
      have hno : ∀ i, u3.ownBlock = some i → w.heap.size ≤ i := fun i hi => (World.ownsRow.lt ho.out i hi).1
      have hO6 : OwnO w6 w.heap.size v6 (opsN (ss.take (j + 1))) := by
        rw [HSN.out]
        unfold OwnO
        rw [opCells_snoc, List.length_append]; exact hown6
      have H2 := hide hO6
      have H3 := hide (hb.out.grown hg6 hb.out.size hno)
      clear hown6 hgr6 hat6 hg6 hno hO6 hk0 ho hb
      go_wp2
      go_roundw
      case rel => exact ⟨j + 1, by omega, by go_num, H2, H3⟩
      case measure => simp [intOf]; omega
    · have hjl : j = ss.length := by omega
      subst hjl
      rw [List.take_length] at ho
      clear hlt
      go_wp2
      go_ret
      exact ⟨_, rfl, ho.out, hb.out⟩
/-- numbers as what is laid. -/
def nuV (ns : List Nat) : List VItem := ns.map fun N => ⟨N, .slice none 0 0, []⟩
theorem zip_nuV : ∀ {ss ns : List Nat}, ss.length = ns.length → fldV (ss.zip ns) = nuV ns
  | [], [], _ => rfl
  | s :: ss, n :: ns, h => by
    have := zip_nuV (ss := ss) (ns := ns) (by simpa using h)
    simp only [fldV, nuV, List.zip_cons_cons, List.map_cons] at this ⊢
    rw [this]
  | [], _ :: _, h => by simp at h
  | _ :: _, [], h => by simp at h
theorem zip_opsN : ∀ {ss ns : List Nat}, ss.length = ns.length → fldO (ss.zip ns) = opsN ss
  | [], [], _ => rfl
  | s :: ss, n :: ns, h => by
    have := zip_opsN (ss := ss) (ns := ns) (by simpa using h)
    simp only [fldO, opsN, List.zip_cons_cons, List.map_cons] at this ⊢
    rw [this]
  | [], _ :: _, h => by simp at h
  | _ :: _, [], h => by simp at h
end Go.Proofs.Ytdlilokmfekndaa

end
section
/-
  The walks of segment.upTo, right, size, sumAt.
-/
namespace Go.Proofs.Ytdlilokmfekndaa
open Go.RowKit
attribute [local go_sem ↓] exec_span exec_put exec_build heap_alloc_new heap_old
attribute [local go_sem] spanQ_ptr spanC_some heap_of_drew heap_of_drewN rs_arr rs_ad rs_ip rs_rip putAt_ptr putOk_ptr oldOk_some World.setRow_alloc_new
set_option maxRecDepth 100000
set_option linter.unusedVariables false
set_option linter.unusedSimpArgs false

theorem rs_seg : rowSize Try.prog 53 = some 11 := by kernel_rfl
attribute [local go_sem] rs_seg
/-- are all numbers from 0 to most? -/
def upL (most : Int) (l : List Int) : Bool := l.all fun n => decide (0 ≤ n) && decide (n ≤ most)
theorem upL_bad {most : Int} {l : List Int} {j : Nat} (h : j < l.length) (hb : l[j] < 0 ∨ most < l[j]) : upL most l = false := by
  unfold upL
  rw [List.all_eq_false]
  exact ⟨l[j], List.getElem_mem h, by simp; omega⟩
theorem upL_good {most : Int} {l : List Int} (h : ∀ j (hj : j < l.length), 0 ≤ l[j] ∧ l[j] ≤ most) : upL most l = true := by
  unfold upL
  rw [List.all_eq_true]
  intro x hx
  obtain ⟨j, hj, rfl⟩ := List.getElem_of_mem hx
  simp [h j hj]

set_option maxHeartbeats 1000000 in
theorem sumAt_any (w : World) (p : Int) : Calls Try.prog 69 #[.int .i64 p] w fun e w' => e = .returned (.int .i64 (if p = 6 then 16 else 6)) ∧ w = w' := by
  by_cases hp : p = 6
  · subst hp
    go_enter Try.func69, Try.ntmps69
    go_wp2
    go_ret
    exact ⟨rfl, rfl⟩
  · have e : (p == 6) = false := by simpa using hp
    rw [if_neg hp]
    clear hp
    go_enter Try.func69, Try.ntmps69
    go_wp2
    go_ret
    exact ⟨rfl, rfl⟩

/-- can it be, within a packet of four? -/
def rightS (s : Sg) : Bool :=
  upL 65535 [s.a, s.b] && (if s.p = 6 then upL 255 [s.f] && upL 65535 [s.wn, s.u] && decide (s.no ≤ 40) && s.no % 4 == 0 && !s.ns
    else s.q == 0 && s.k == 0 && upL 0 [s.f, s.wn, s.u] && s.no == 0)

end Go.Proofs.Ytdlilokmfekndaa

end
