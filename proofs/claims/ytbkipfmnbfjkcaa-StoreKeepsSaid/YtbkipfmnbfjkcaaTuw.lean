/-
  The walks of the other way round.
-/
import Derived.Test.YtbkipfmnbfjkcaaTut
import Derived.Laws.CopyOwn
namespace Go.Proofs.Ytbkipfmnbfjkcaa
open Go.RowKit
attribute [local go_sem ↓] exec_span exec_put exec_build heap_alloc_new heap_old
attribute [local go_sem] spanQ_ptr spanC_some heap_of_drew heap_of_drewN rs_arr rs_ad rs_tup putAt_ptr putOk_ptr oldOk_some built_none World.setRow_alloc_new
set_option maxRecDepth 100000
set_option linter.unusedVariables false
set_option linter.unusedSimpArgs false

theorem run_storeVar_part {P : Program} (w : World) (g o : Nat) (ty t : TypeId) (cs cur : List Value) (hg : w.heap[g]? = some (.cells cur.toArray t (0, 0))) (hfit : o + cs.length ≤ cur.length) (hi : (P.info? ty).map (·.size) = some cs.length) (h1 : ∀ v ∈ cs, v.oneCell' = true) :
    (storeVar ty ⟨g, o, none⟩ (.agg cs.toArray)).run P w = .ok () (w.setRow g (splice cur o cs).toArray) := by
  have := run_storeCells_at (P := P) g o t cs 0 cur.toArray w hg (by simpa using hfit) h1
  cases hq : P.info? ty with
  | none => simp [hq] at hi
  | some i =>
    have hs : cs.length = i.size := by simp [hq] at hi; omega
    simp only [Nat.add_zero] at this
    simp [storeVar, sizeOf, typeInfo, hq, Value.cells, hs, this]
    simp [splice, hs]

theorem wpList_store_part {P : Program} {w : World} {ops : Array Oper} {rest : List Oper} {o : Oper} {a : Act} {Q : Exit → Act → World → Prop} (hgd : o.guard = none) (ty : TypeId) (x y : Operand)
    (ho : o.op = .store ty x y) (g off : Nat) (hx : a.eval x = .pointer (some ⟨g, off, none⟩)) (cs cur : List Value) (hy : a.eval y = .agg cs.toArray) (t : TypeId) (hg : w.heap[g]? = some (.cells cur.toArray t (0, 0)))
    (hfit : off + cs.length ≤ cur.length) (hi : (P.info? ty).map (·.size) = some cs.length) (h1 : ∀ v ∈ cs, v.oneCell' = true)
    (h : ∀ w', Hid (w' = w.setRow g (splice cur off cs).toArray) → Hid (w'.heap[g]? = some (.cells (splice cur off cs).toArray t (0, 0))) → wpList P ops Q rest (a.put o.dst undef) w') :
    wpList P ops Q (o :: rest) a w := by
  refine wpList_plain hgd fun K hK => ?_
  have hrun := run_storeVar_part (P := P) w g off ty t cs cur hg hfit hi h1
  unfold Oper.wp
  simp [execOp, ho, Instr.storeAt, Instr.sureAddr, hx, hy, hrun, Result.andThen]
  exact hK _ _ (h _ rfl (show _ = _ from setRow_heap w g _ _ t _ hg))
theorem wpList_store_int {P : Program} {w : World} {ops : Array Oper} {rest : List Oper} {o : Oper} {a : Act} {Q : Exit → Act → World → Prop} (hgd : o.guard = none) (ty : TypeId) (x y : Operand)
    (ho : o.op = .store ty x y) (g off : Nat) (hx : a.eval x = .pointer (some ⟨g, off, none⟩)) (k : IntKind) (n : Int) (cur : List Value) (hy : a.eval y = .int k n) (t : TypeId) (hg : w.heap[g]? = some (.cells cur.toArray t (0, 0)))
    (hfit : off + 1 ≤ cur.length) (hi : (P.info? ty).map (·.size) = some 1)
    (h : ∀ w', Hid (w' = w.setRow g (splice cur off [.int k n]).toArray) → Hid (w'.heap[g]? = some (.cells (splice cur off [.int k n]).toArray t (0, 0))) → wpList P ops Q rest (a.put o.dst undef) w') :
    wpList P ops Q (o :: rest) a w := by
  refine wpList_plain hgd fun K hK => ?_
  have hrun : (storeVar ty ⟨g, off, none⟩ (.int k n)).run P w = .ok () (w.setRow g (splice cur off [.int k n]).toArray) := run_storeVar_part (P := P) w g off ty t [.int k n] cur hg hfit hi (fun v hv => by rw [List.mem_singleton.1 hv]; rfl)
  unfold Oper.wp
  simp [execOp, ho, Instr.storeAt, Instr.sureAddr, hx, hy, hrun, Result.andThen]
  exact hK _ _ (h _ rfl (show _ = _ from setRow_heap w g _ _ t _ hg))

theorem turn_one {l l' : List UInt8} (h : l.length = 16) (h' : l'.length = 16) (v v' : Bool) (p s d : Int) : splice (splice (tupL ⟨v, l, v', l', p, s, d⟩) 0 (adL v' l')) 17 (adL v l) = tupL ⟨v', l', v, l, p, s, d⟩ := by
  have e1 := length_adL (v := v) h
  have e2 := length_adL (v := v') h'
  simp only [splice, tupL, List.take_zero, List.nil_append, Nat.zero_add, e1, e2]
  rw [List.drop_append_of_le_length (by omega), List.drop_of_length_le (l := adL v l) (by omega), List.nil_append, List.take_append_of_le_length (by omega), List.take_of_length_le (by omega)]
  rw [List.drop_append, e2, List.drop_of_length_le (l := adL v' l') (by omega), List.nil_append, List.drop_append, e2, List.drop_of_length_le (l := adL v' l') (by omega), List.nil_append]
  rfl
theorem turn_two {l l' : List UInt8} (h : l.length = 16) (h' : l'.length = 16) (v v' : Bool) (p s d : Int) : splice (splice (tupL ⟨v', l', v, l, p, s, d⟩) 35 [.int .i64 d]) 36 [.int .i64 s] = tupL ⟨v', l', v, l, p, d, s⟩ := by
  match l, l', h, h' with
  | [_, _, _, _, _, _, _, _, _, _, _, _, _, _, _, _], [_, _, _, _, _, _, _, _, _, _, _, _, _, _, _, _], _, _ => rfl
theorem turn_three {l l' : List UInt8} (h : l.length = 16) (h' : l'.length = 16) (v v' : Bool) (p s d : Int) : ((tupL ⟨v', l', v, l, p, s, d⟩).toArray.setIfInBounds 35 (.int .i64 d)).setIfInBounds 36 (.int .i64 s) = (tupL ⟨v', l', v, l, p, d, s⟩).toArray := by
  match l, l', h, h' with
  | [_, _, _, _, _, _, _, _, _, _, _, _, _, _, _, _], [_, _, _, _, _, _, _, _, _, _, _, _, _, _, _, _], _, _ => rfl
theorem length_tupL {t : Tup} (h : t.sb.length = 16) (h' : t.db.length = 16) : (tupL t).length = 37 := by simp [tupL, length_adL h, length_adL h']
theorem info_int : (Try.prog.info? 3).map (·.size) = some 1 := by kernel_rfl

end Go.Proofs.Ytbkipfmnbfjkcaa
