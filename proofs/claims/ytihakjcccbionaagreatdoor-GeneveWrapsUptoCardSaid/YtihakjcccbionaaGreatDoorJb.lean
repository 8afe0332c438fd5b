/-
  The walks of given and taken: a packet as the other side has it.
-/
import Derived.Test.YtihakjcccbionaaGreatDoorJa
import Derived.Deep.RegionHeld3
namespace Go.Proofs.YtihakjcccbionaaGreatDoor
open Go.RowKit
attribute [local go_sem ↓] exec_span exec_put exec_build heap_alloc_new heap_old
attribute [local go_sem] spanQ_ptr spanC_some heap_of_drew heap_of_drewN rs_arr rs_ad rs_ip rs_rip putAt_ptr putOk_ptr oldOk_some World.setRow_alloc_new
set_option maxRecDepth 100000
set_option linter.unusedVariables false
set_option linter.unusedSimpArgs false

theorem built_hA (v sv dv df : Bool) (p ttl tos id lab : Int) (ao ad : Option Addr) (no co nd cd : Nat) (b0 b1 b2 b3 b4 b5 b6 b7 b8 b9 b10 b11 b12 b13 b14 b15 c0 c1 c2 c3 c4 c5 c6 c7 c8 c9 c10 c11 c12 c13 c14 c15 : UInt8) :
    Tryz.prog.built 51 [(0, .bool v), (1, .agg (adL sv [b0, b1, b2, b3, b4, b5, b6, b7, b8, b9, b10, b11, b12, b13, b14, b15]).toArray), (2, .agg (adL dv [c0, c1, c2, c3, c4, c5, c6, c7, c8, c9, c10, c11, c12, c13, c14, c15]).toArray), (3, .int .i64 p), (4, .int .i64 ttl), (5, .int .i64 tos), (6, .int .i64 id), (7, .bool df), (8, .int .i64 lab), (9, .slice ao no co), (10, .slice ad nd cd)] = some (ipL ⟨v, sv, [b0, b1, b2, b3, b4, b5, b6, b7, b8, b9, b10, b11, b12, b13, b14, b15], dv, [c0, c1, c2, c3, c4, c5, c6, c7, c8, c9, c10, c11, c12, c13, c14, c15], p, ttl, tos, id, df, lab, ao, no, co, ad, nd, cd⟩).toArray := by kernel_rfl
theorem built_rA (v sv dv df : Bool) (p ttl tos id lab : Int) (ao ad : Option Addr) (no co nd cd : Nat) (b0 b1 b2 b3 b4 b5 b6 b7 b8 b9 b10 b11 b12 b13 b14 b15 c0 c1 c2 c3 c4 c5 c6 c7 c8 c9 c10 c11 c12 c13 c14 c15 : UInt8) :
    Tryz.prog.built 62 [(0, .bool v), (1, .agg (adL sv [b0, b1, b2, b3, b4, b5, b6, b7, b8, b9, b10, b11, b12, b13, b14, b15]).toArray), (2, .agg (adL dv [c0, c1, c2, c3, c4, c5, c6, c7, c8, c9, c10, c11, c12, c13, c14, c15]).toArray), (3, .int .i64 p), (4, .int .i64 ttl), (5, .int .i64 tos), (6, .int .i64 id), (7, .bool df), (8, .int .i64 lab), (9, .slice ao no co), (10, .slice ad nd cd)] = some (ipL ⟨v, sv, [b0, b1, b2, b3, b4, b5, b6, b7, b8, b9, b10, b11, b12, b13, b14, b15], dv, [c0, c1, c2, c3, c4, c5, c6, c7, c8, c9, c10, c11, c12, c13, c14, c15], p, ttl, tos, id, df, lab, ao, no, co, ad, nd, cd⟩).toArray := by kernel_rfl
/-- the parts that a packet is made of. -/
def ipP (h : Ip) : List (Nat × Value) := [(0, .bool h.v), (1, .agg (adL h.sv h.sb).toArray), (2, .agg (adL h.dv h.db).toArray), (3, .int .i64 h.p), (4, .int .i64 h.ttl), (5, .int .i64 h.tos), (6, .int .i64 h.id), (7, .bool h.df), (8, .int .i64 h.lab), (9, .slice h.ao h.no h.co), (10, .slice h.ad h.nd h.cd)]
theorem built_h (h : Ip) (ls : h.sb.length = 16) (ld : h.db.length = 16) : Tryz.prog.built 51 (ipP h) = some (ipL h).toArray := by
  obtain ⟨v, sv, sb, dv, db, p, ttl, tos, id, df, lab, ao, no, co, ad, nd, cd⟩ := h
  match sb, db, ls, ld with
  | [_, _, _, _, _, _, _, _, _, _, _, _, _, _, _, _], [_, _, _, _, _, _, _, _, _, _, _, _, _, _, _, _], _, _ => exact built_hA _ _ _ _ _ _ _ _ _ _ _ _ _ _ _ _ _ _ _ _ _ _ _ _ _ _ _ _ _ _ _ _ _ _ _ _ _ _ _ _ _ _ _ _ _ _ _
theorem built_r (h : Ip) (ls : h.sb.length = 16) (ld : h.db.length = 16) : Tryz.prog.built 62 (ipP h) = some (ipL h).toArray := by
  obtain ⟨v, sv, sb, dv, db, p, ttl, tos, id, df, lab, ao, no, co, ad, nd, cd⟩ := h
  match sb, db, ls, ld with
  | [_, _, _, _, _, _, _, _, _, _, _, _, _, _, _, _], [_, _, _, _, _, _, _, _, _, _, _, _, _, _, _, _], _, _ => exact built_rA _ _ _ _ _ _ _ _ _ _ _ _ _ _ _ _ _ _ _ _ _ _ _ _ _ _ _ _ _ _ _ _ _ _ _ _ _ _ _ _ _ _ _ _ _ _ _
theorem info_rip : (Tryz.prog.info? 62).map (·.size) = some 43 := by kernel_rfl
theorem two_packs (w : World) (X Z : Array Value) (t u : TypeId) (W : World) (hW : (w.alloc (.cells X t)).alloc (.cells Z u) = W) : W.heap[w.heap.size]? = some (.cells X t (0, 0)) ∧ W.heap[w.heap.size + 1]? = some (.cells Z u (0, 0)) ∧ W.heap.size = w.heap.size + 2 ∧ Below w.heap.size w W := by
  subst hW
  refine ⟨(Below.heap_alloc _ _ _ (by simp)).trans (heap_alloc_new w _), ?_, by simp, ((Below.refl _ _).alloc (Nat.le_refl _) _).alloc (by simp) _⟩
  have h := heap_alloc_new (w.alloc (.cells X t)) (.cells Z u)
  rwa [show (w.alloc (.cells X t)).heap.size = w.heap.size + 1 by simp] at h
/-- what a walk asks of a packet's block, its addresses too. -/
def IpS (w : World) (g : Nat) (h : Ip) (X : Array Value) (t : TypeId) : Prop := w.heap[g]? = some (.cells X t (0, 0)) ∧ IpC w g h

/-- the packet as the program has it: its lists in new memory, marks behind them. -/
def givH (h : Ip) (g1 g2 : Nat) : Ip := { h with ao := some ⟨g1, 0, none⟩, co := h.no + 8, ad := some ⟨g2, 0, none⟩, cd := h.nd + 8 }
def Given (w : World) (h : Ip) (O D : List UInt8) (e : Ending) (w' : World) : Prop := ∃ g1 g2, e = .returned (.agg (ipL (givH h g1 g2)).toArray) ∧ Lentd w' g1 O ∧ Lentd w' g2 D ∧ w.heap.size ≤ g1 ∧ w.heap.size ≤ g2 ∧ Below w.heap.size w w'
end Go.Proofs.YtihakjcccbionaaGreatDoor
