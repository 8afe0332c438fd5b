/-
  One as the program has it: given.
-/
import Derived.Test.YtmbddengmheeeaaLfu
import Derived.Deep.RegionLaw
import Derived.Deep.AppendLies
namespace Go.Proofs.Ytmbddengmheeeaa
open Go.RowKit
set_option maxRecDepth 100000
set_option linter.unusedVariables false
set_option linter.unusedSimpArgs false
attribute [local go_sem ↓] exec_span exec_put exec_build heap_alloc_new heap_old
attribute [local go_sem] spanQ_ptr spanC_some heap_of_drew heap_of_drewN rs_ad rs_spec rs_rec rs_vote putAt_ptr putOk_ptr oldOk_some store_fl World.setRow_alloc_new

def kTake (k : Kn) (j : Nat) : Kn := { k with vs := k.vs.take j }
theorem built_g0 (g l d : Int) : Try.prog.built 34 [(0, .int .i64 g), (1, .int .i64 l), (4, .int .i64 d)] = some (rcL ⟨g, l, zSp, none, 0, 0, d⟩).toArray := by kernel_rfl
theorem built_gsA (s y : Int) (v : Bool) (wt : Nat) (b0 b1 b2 b3 b4 b5 b6 b7 b8 b9 b10 b11 b12 b13 b14 b15 : UInt8) :
    Try.prog.built 31 [(0, .int .i64 s), (1, .int .i64 y), (2, .agg (adL v [b0, b1, b2, b3, b4, b5, b6, b7, b8, b9, b10, b11, b12, b13, b14, b15]).toArray), (3, .float .f64 wt)] = some (spL ⟨s, y, v, [b0, b1, b2, b3, b4, b5, b6, b7, b8, b9, b10, b11, b12, b13, b14, b15], wt⟩).toArray := by kernel_rfl
theorem built_gsT (s : Spc) (h : s.ab.length = 16) : Try.prog.built 31 [(0, .int .i64 s.st), (1, .int .i64 s.by_), (2, .agg (adL s.av s.ab).toArray), (3, .float .f64 s.wt)] = some (spL s).toArray := by
  obtain ⟨s, y, v, ab, wt⟩ := s
  match ab, h with
  | [_, _, _, _, _, _, _, _, _, _, _, _, _, _, _, _], _ => exact built_gsA _ _ _ _ _ _ _ _ _ _ _ _ _ _ _ _ _ _ _ _
/-- what the memory holds behind j votes. -/
structure GvI (w wr : World) (g0 g1 g2 : Nat) (X Z : Array Value) (k : Kn) (j : Nat) (A : Option Addr) (c : Nat) : Prop where
  rx : wr.heap[g0]? = some (.cells X 30 (0, 0))
  rz : wr.heap[g1]? = some (.cells Z 34 (0, 0))
  ry : ∃ Y, RcV Y ((kTake k j).rc A c) ∧ wr.heap[g2]? = some (.cells Y 34 (0, 0))
  own : OwnVo wr (g2 + 1) (.slice A (kTake k j).vs.length c) (kTake k j).vs
  bel : Below w.heap.size w wr
  size : g2 < wr.heap.size
theorem splice_sp (g l d : Int) (s : Spc) (h : s.ab.length = 16) : splice (rcL ⟨g, l, zSp, none, 0, 0, d⟩) 2 (spL s) = rcL ⟨g, l, s, none, 0, 0, d⟩ := by
  have hl := len_spL h
  unfold splice
  rw [hl]
  unfold rcL
  simp [spL, adL, zSp]
theorem rc_cells5 {X : Array Value} {r : Rcd} (h : RcV X r) {w : World} {g : Nat} {ty : TypeId} (hg : w.heap[g]? = some (.cells X ty (0, 0))) :
    w.cell? ⟨g, 2, none⟩ = some (.int .i64 r.sp.st) ∧ w.cell? ⟨g, 3, none⟩ = some (.int .i64 r.sp.by_) ∧ w.cell? ⟨g, 21, none⟩ = some (.float .f64 r.sp.wt) := by
  have e := h.eq
  have hl := len_adL r.sp.av h.la
  refine ⟨(cell_of_row w g 2 X ty (0, 0) hg).trans (by rw [e]; rfl), (cell_of_row w g 3 X ty (0, 0) hg).trans (by rw [e]; rfl), (cell_of_row w g 21 X ty (0, 0) hg).trans ?_⟩
  rw [e, List.getElem?_toArray]
  unfold rcL spL
  rw [List.getElem?_cons_succ, List.getElem?_cons_succ, List.getElem?_append_left (by simp [hl]), List.getElem?_cons_succ, List.getElem?_cons_succ, List.getElem?_append_right (by omega), hl]; rfl
theorem rc_addr {X : Array Value} {r : Rcd} (h : RcV X r) : X.extract 4 21 = (adL r.sp.av r.sp.ab).toArray := by
  rw [h.eq, List.extract_toArray]
  congr 1
  have hl := len_adL r.sp.av h.la
  simp only [rcL, spL, List.extract_eq_take_drop, List.drop_succ_cons, List.drop_zero, List.cons_append, List.append_assoc]
  rw [List.take_append_of_le_length (by rw [hl]; decide), List.take_of_length_le (by rw [hl]; decide)]
end Go.Proofs.Ytmbddengmheeeaa
