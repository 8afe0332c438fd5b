import Derived.Test.YtcfckhdohcaffaaTup
import Derived.Laws.CopyOwn
section
/-
  The walks of the order of tuples.
-/
namespace Go.Proofs.Ytcfckhdohcaffaa
open Go.RowKit
attribute [local go_sem ↓] exec_span exec_put exec_build heap_alloc_new heap_old
attribute [local go_sem] spanQ_ptr spanC_some heap_of_drew heap_of_drewN rs_arr rs_ad rs_tup putAt_ptr putOk_ptr oldOk_some built_none World.setRow_alloc_new
set_option maxRecDepth 100000
set_option linter.unusedVariables false
set_option linter.unusedSimpArgs false

/-- which of two stands ahead. -/
def lessT (t u : Tup) : Bool :=
  if t.p = u.p then
    if t.sv = u.sv ∧ t.sb = u.sb then
      if t.dv = u.dv ∧ t.db = u.db then
        if t.s = u.s then decide (t.d < u.d) else decide (t.s < u.s)
      else lessA t.dv t.db u.dv u.db
    else lessA t.sv t.sb u.sv u.sb
  else decide (t.p < u.p)

end Go.Proofs.Ytcfckhdohcaffaa

end
section
/-
  Words for tuples: the other way round, and the laws of their order.
-/
namespace Go.Proofs.Ytcfckhdohcaffaa
open Go.RowKit
set_option linter.unusedVariables false

/-- the other way round. -/
def turnT (t : Tup) : Tup := ⟨t.dv, t.db, t.sv, t.sb, t.p, t.d, t.s⟩
theorem turnT_turnT (t : Tup) : turnT (turnT t) = t := rfl
theorem rightT_turnT (t : Tup) : rightT (turnT t) = rightT t := by
  unfold rightT turnT
  rw [Bool.eq_iff_iff]
  simp only [Bool.and_eq_true, beq_iff_eq]
  constructor
  · rintro ⟨⟨⟨⟨⟨a, b⟩, c⟩, d⟩, e⟩, f⟩; exact ⟨⟨⟨⟨⟨b, a⟩, c.symm⟩, d⟩, f⟩, e⟩
  · rintro ⟨⟨⟨⟨⟨a, b⟩, c⟩, d⟩, e⟩, f⟩; exact ⟨⟨⟨⟨⟨b, a⟩, c.symm⟩, d⟩, f⟩, e⟩
theorem Tup.ext' {t u : Tup} (h1 : t.sv = u.sv ∧ t.sb = u.sb) (h2 : t.dv = u.dv ∧ t.db = u.db) (h3 : t.p = u.p) (h4 : t.s = u.s) (h5 : t.d = u.d) : t = u := by
  cases t; cases u; simp_all
theorem lessT_irrefl (t : Tup) : lessT t t = false := by
  unfold lessT
  rw [if_pos rfl, if_pos ⟨rfl, rfl⟩, if_pos ⟨rfl, rfl⟩, if_pos rfl]
  exact decide_eq_false (by omega)
theorem swap2 {a b : Bool} {l m : List UInt8} (h : ¬ (a = b ∧ l = m)) : ¬ (b = a ∧ m = l) := fun ⟨x, y⟩ => h ⟨x.symm, y.symm⟩
theorem int_total {a b : Int} (h : a ≠ b) : decide (a < b) = !decide (b < a) := by
  by_cases h1 : a < b
  · rw [decide_eq_true h1, decide_eq_false (by omega)]; rfl
  · rw [decide_eq_false h1, decide_eq_true (by omega)]; rfl
theorem lessT_total {t u : Tup} (hs : t.sb.length = u.sb.length) (hd : t.db.length = u.db.length) (h : t ≠ u) : lessT t u = !lessT u t := by
  unfold lessT
  by_cases hp : t.p = u.p
  · rw [if_pos hp, if_pos hp.symm]
    by_cases h1 : t.sv = u.sv ∧ t.sb = u.sb
    · have h1s : u.sv = t.sv ∧ u.sb = t.sb := ⟨h1.1.symm, h1.2.symm⟩
      rw [if_pos h1, if_pos h1s]
      by_cases h2 : t.dv = u.dv ∧ t.db = u.db
      · have h2s : u.dv = t.dv ∧ u.db = t.db := ⟨h2.1.symm, h2.2.symm⟩
        rw [if_pos h2, if_pos h2s]
        by_cases h3 : t.s = u.s
        · rw [if_pos h3, if_pos h3.symm]
          exact int_total (fun h4 => h (Tup.ext' h1 h2 hp h3 h4))
        · rw [if_neg h3, if_neg (Ne.symm h3)]
          exact int_total h3
      · rw [if_neg h2, if_neg (swap2 h2)]
        exact lessA_total hd h2
    · rw [if_neg h1, if_neg (swap2 h1)]
      exact lessA_total hs h1
  · rw [if_neg hp, if_neg (Ne.symm hp)]
    exact int_total hp
theorem lessT_trans {t u r : Tup} (h1 : lessT t u = true) (h2 : lessT u r = true) : lessT t r = true := by
  unfold lessT at h1 h2 ⊢
  by_cases p1 : t.p = u.p
  · by_cases p2 : u.p = r.p
    · rw [if_pos p1] at h1
      rw [if_pos p2] at h2
      rw [if_pos (p1.trans p2)]
      by_cases s1 : t.sv = u.sv ∧ t.sb = u.sb
      · by_cases s2 : u.sv = r.sv ∧ u.sb = r.sb
        · rw [if_pos s1] at h1
          rw [if_pos s2] at h2
          rw [if_pos ⟨s1.1.trans s2.1, s1.2.trans s2.2⟩]
          by_cases d1 : t.dv = u.dv ∧ t.db = u.db
          · by_cases d2 : u.dv = r.dv ∧ u.db = r.db
            · rw [if_pos d1] at h1
              rw [if_pos d2] at h2
              rw [if_pos ⟨d1.1.trans d2.1, d1.2.trans d2.2⟩]
              split at h1 <;> split at h2 <;> split <;> simp only [decide_eq_true_eq] at h1 h2 ⊢ <;> omega
            · rw [if_neg d2] at h2
              rw [if_neg (fun e => d2 ⟨d1.1.symm.trans e.1, d1.2.symm.trans e.2⟩), d1.1, d1.2]
              exact h2
          · rw [if_neg d1] at h1
            by_cases d2 : u.dv = r.dv ∧ u.db = r.db
            · rw [if_neg (fun e => d1 ⟨e.1.trans d2.1.symm, e.2.trans d2.2.symm⟩), ← d2.1, ← d2.2]
              exact h1
            · rw [if_neg d2] at h2
              have h3 := lessA_trans h1 h2
              rw [if_neg (fun e => by rw [e.1, e.2, lessA_irrefl] at h3; cases h3)]
              exact h3
        · rw [if_neg s2] at h2
          rw [if_neg (fun e => s2 ⟨s1.1.symm.trans e.1, s1.2.symm.trans e.2⟩), s1.1, s1.2]
          exact h2
      · rw [if_neg s1] at h1
        by_cases s2 : u.sv = r.sv ∧ u.sb = r.sb
        · rw [if_neg (fun e => s1 ⟨e.1.trans s2.1.symm, e.2.trans s2.2.symm⟩), ← s2.1, ← s2.2]
          exact h1
        · rw [if_neg s2] at h2
          have h3 := lessA_trans h1 h2
          rw [if_neg (fun e => by rw [e.1, e.2, lessA_irrefl] at h3; cases h3)]
          exact h3
    · rw [if_neg p2] at h2
      rw [p1, if_neg p2]
      exact h2
  · rw [if_neg p1] at h1
    have h1' := of_decide_eq_true h1
    by_cases p2 : u.p = r.p
    · rw [← p2, if_neg p1]; exact h1
    · rw [if_neg p2] at h2
      have h2' := of_decide_eq_true h2
      rw [if_neg (by omega)]
      exact decide_eq_true (by omega)
theorem TuV.mk' {t : Tup} (h1 : t.sb.length = 16) (h2 : t.db.length = 16) : TuV (tupL t).toArray t := ⟨rfl, h1, h2⟩
end Go.Proofs.Ytcfckhdohcaffaa

end
section
/-
  The walks of the other way round.
-/
namespace Go.Proofs.Ytcfckhdohcaffaa
open Go.RowKit
attribute [local go_sem ↓] exec_span exec_put exec_build heap_alloc_new heap_old
attribute [local go_sem] spanQ_ptr spanC_some heap_of_drew heap_of_drewN rs_arr rs_ad rs_tup putAt_ptr putOk_ptr oldOk_some built_none World.setRow_alloc_new
set_option maxRecDepth 100000
set_option linter.unusedVariables false
set_option linter.unusedSimpArgs false

theorem built_tup32 (v v' : Bool) (p s d : Int) (a0 a1 a2 a3 a4 a5 a6 a7 a8 a9 a10 a11 a12 a13 a14 a15 b0 b1 b2 b3 b4 b5 b6 b7 b8 b9 b10 b11 b12 b13 b14 b15 : UInt8) : Try.prog.built 52 [(0, .agg (adL v [a0, a1, a2, a3, a4, a5, a6, a7, a8, a9, a10, a11, a12, a13, a14, a15]).toArray), (1, .agg (adL v' [b0, b1, b2, b3, b4, b5, b6, b7, b8, b9, b10, b11, b12, b13, b14, b15]).toArray), (2, .int .i64 p), (3, .int .i64 s), (4, .int .i64 d)] = some (tupL ⟨v, [a0, a1, a2, a3, a4, a5, a6, a7, a8, a9, a10, a11, a12, a13, a14, a15], v', [b0, b1, b2, b3, b4, b5, b6, b7, b8, b9, b10, b11, b12, b13, b14, b15], p, s, d⟩).toArray := by kernel_rfl
theorem built_tup (v v' : Bool) (p s d : Int) (l l' : List UInt8) (h : l.length = 16) (h' : l'.length = 16) : Try.prog.built 52 [(0, .agg (adL v l).toArray), (1, .agg (adL v' l').toArray), (2, .int .i64 p), (3, .int .i64 s), (4, .int .i64 d)] = some (tupL ⟨v, l, v', l', p, s, d⟩).toArray := by
  match l, l', h, h' with
  | [_, _, _, _, _, _, _, _, _, _, _, _, _, _, _, _], [_, _, _, _, _, _, _, _, _, _, _, _, _, _, _, _], _, _ => exact built_tup32 _ _ _ _ _ _ _ _ _ _ _ _ _ _ _ _ _ _ _ _ _ _ _ _ _ _ _ _ _ _ _ _ _ _ _ _ _

def tupZ : Array Value := (tupL ⟨false, List.replicate 16 0, false, List.replicate 16 0, 0, 0, 0⟩).toArray
theorem tupZ_ok : tupZ = #[Value.bool false, Value.int IntKind.u8 0, Value.int IntKind.u8 0, Value.int IntKind.u8 0, Value.int IntKind.u8 0, Value.int IntKind.u8 0, Value.int IntKind.u8 0, Value.int IntKind.u8 0, Value.int IntKind.u8 0, Value.int IntKind.u8 0, Value.int IntKind.u8 0, Value.int IntKind.u8 0, Value.int IntKind.u8 0, Value.int IntKind.u8 0, Value.int IntKind.u8 0, Value.int IntKind.u8 0, Value.int IntKind.u8 0, Value.bool false, Value.int IntKind.u8 0, Value.int IntKind.u8 0, Value.int IntKind.u8 0, Value.int IntKind.u8 0, Value.int IntKind.u8 0, Value.int IntKind.u8 0, Value.int IntKind.u8 0, Value.int IntKind.u8 0, Value.int IntKind.u8 0, Value.int IntKind.u8 0, Value.int IntKind.u8 0, Value.int IntKind.u8 0, Value.int IntKind.u8 0, Value.int IntKind.u8 0, Value.int IntKind.u8 0, Value.int IntKind.u8 0, Value.int IntKind.i64 0, Value.int IntKind.i64 0, Value.int IntKind.i64 0] := rfl
theorem tupZ_size : tupZ.size = 37 := rfl
theorem tupZ_tu : TuV tupZ ⟨false, List.replicate 16 0, false, List.replicate 16 0, 0, 0, 0⟩ := TuV.mk' rfl rfl
theorem info_tup : (Try.prog.info? 52).map (·.size) = some 37 := by kernel_rfl

end Go.Proofs.Ytcfckhdohcaffaa

end
section
/-
  The walks of the other way round.
-/
namespace Go.Proofs.Ytcfckhdohcaffaa
open Go.RowKit
attribute [local go_sem ↓] exec_span exec_put exec_build heap_alloc_new heap_old
attribute [local go_sem] spanQ_ptr spanC_some heap_of_drew heap_of_drewN rs_arr rs_ad rs_tup putAt_ptr putOk_ptr oldOk_some built_none World.setRow_alloc_new
set_option maxRecDepth 100000
set_option linter.unusedVariables false
set_option linter.unusedSimpArgs false

theorem run_storeVar_part {P : Program} (w : World) (g o : Nat) (ty t : TypeId) (cs cur : List Value) (hg : w.heap[g]? = some (.cells cur.toArray t (0, 0))) (hfit : o + cs.length ≤ cur.length) (hi : (P.info? ty).map (·.size) = some cs.length) (h1 : ∀ v ∈ cs, v.oneCell' = true) :
    (storeVar ty ⟨g, o, none⟩ (.agg cs.toArray)).run P w = .ok () (w.setRow g (splice cur o cs).toArray) := by
  have := run_storeCells_at (P := P) g o t cs 0 cur.toArray w hg (by simpa using hfit) h1
  cases hq : P.info? ty with
  | none => simp [hq] at hi
  | some i =>
    have hs : cs.length = i.size := by simp [hq] at hi; omega
    simp only [Nat.add_zero] at this
    simp [storeVar, sizeOf, typeInfo, hq, Value.cells, hs, this]
    simp [splice, hs]

theorem wpList_store_part {P : Program} {w : World} {ops : Array Oper} {rest : List Oper} {o : Oper} {a : Act} {Q : Exit → Act → World → Prop} (hgd : o.guard = none) (ty : TypeId) (x y : Operand)
    (ho : o.op = .store ty x y) (g off : Nat) (hx : a.eval x = .pointer (some ⟨g, off, none⟩)) (cs cur : List Value) (hy : a.eval y = .agg cs.toArray) (t : TypeId) (hg : w.heap[g]? = some (.cells cur.toArray t (0, 0)))
    (hfit : off + cs.length ≤ cur.length) (hi : (P.info? ty).map (·.size) = some cs.length) (h1 : ∀ v ∈ cs, v.oneCell' = true)
    (h : ∀ w', Hid (w' = w.setRow g (splice cur off cs).toArray) → Hid (w'.heap[g]? = some (.cells (splice cur off cs).toArray t (0, 0))) → wpList P ops Q rest (a.put o.dst undef) w') :
    wpList P ops Q (o :: rest) a w := by
  refine wpList_plain hgd fun K hK => ?_
  have hrun := run_storeVar_part (P := P) w g off ty t cs cur hg hfit hi h1
  unfold Oper.wp
  simp [execOp, ho, Instr.storeAt, Instr.sureAddr, hx, hy, hrun, Result.andThen]
  exact hK _ _ (h _ rfl (show _ = _ from setRow_heap w g _ _ t _ hg))
theorem wpList_store_int {P : Program} {w : World} {ops : Array Oper} {rest : List Oper} {o : Oper} {a : Act} {Q : Exit → Act → World → Prop} (hgd : o.guard = none) (ty : TypeId) (x y : Operand)
    (ho : o.op = .store ty x y) (g off : Nat) (hx : a.eval x = .pointer (some ⟨g, off, none⟩)) (k : IntKind) (n : Int) (cur : List Value) (hy : a.eval y = .int k n) (t : TypeId) (hg : w.heap[g]? = some (.cells cur.toArray t (0, 0)))
    (hfit : off + 1 ≤ cur.length) (hi : (P.info? ty).map (·.size) = some 1)
    (h : ∀ w', Hid (w' = w.setRow g (splice cur off [.int k n]).toArray) → Hid (w'.heap[g]? = some (.cells (splice cur off [.int k n]).toArray t (0, 0))) → wpList P ops Q rest (a.put o.dst undef) w') :
    wpList P ops Q (o :: rest) a w := by
  refine wpList_plain hgd fun K hK => ?_
  have hrun : (storeVar ty ⟨g, off, none⟩ (.int k n)).run P w = .ok () (w.setRow g (splice cur off [.int k n]).toArray) := run_storeVar_part (P := P) w g off ty t [.int k n] cur hg hfit hi (fun v hv => by rw [List.mem_singleton.1 hv]; rfl)
  unfold Oper.wp
  simp [execOp, ho, Instr.storeAt, Instr.sureAddr, hx, hy, hrun, Result.andThen]
  exact hK _ _ (h _ rfl (show _ = _ from setRow_heap w g _ _ t _ hg))

theorem turn_one {l l' : List UInt8} (h : l.length = 16) (h' : l'.length = 16) (v v' : Bool) (p s d : Int) : splice (splice (tupL ⟨v, l, v', l', p, s, d⟩) 0 (adL v' l')) 17 (adL v l) = tupL ⟨v', l', v, l, p, s, d⟩ := by
  have e1 := length_adL (v := v) h
  have e2 := length_adL (v := v') h'
  simp only [splice, tupL, List.take_zero, List.nil_append, Nat.zero_add, e1, e2]
  rw [List.drop_append_of_le_length (by omega), List.drop_of_length_le (l := adL v l) (by omega), List.nil_append, List.take_append_of_le_length (by omega), List.take_of_length_le (by omega)]
  rw [List.drop_append, e2, List.drop_of_length_le (l := adL v' l') (by omega), List.nil_append, List.drop_append, e2, List.drop_of_length_le (l := adL v' l') (by omega), List.nil_append]
  rfl
theorem turn_two {l l' : List UInt8} (h : l.length = 16) (h' : l'.length = 16) (v v' : Bool) (p s d : Int) : splice (splice (tupL ⟨v', l', v, l, p, s, d⟩) 35 [.int .i64 d]) 36 [.int .i64 s] = tupL ⟨v', l', v, l, p, d, s⟩ := by
  match l, l', h, h' with
  | [_, _, _, _, _, _, _, _, _, _, _, _, _, _, _, _], [_, _, _, _, _, _, _, _, _, _, _, _, _, _, _, _], _, _ => rfl
theorem turn_three {l l' : List UInt8} (h : l.length = 16) (h' : l'.length = 16) (v v' : Bool) (p s d : Int) : ((tupL ⟨v', l', v, l, p, s, d⟩).toArray.setIfInBounds 35 (.int .i64 d)).setIfInBounds 36 (.int .i64 s) = (tupL ⟨v', l', v, l, p, d, s⟩).toArray := by
  match l, l', h, h' with
  | [_, _, _, _, _, _, _, _, _, _, _, _, _, _, _, _], [_, _, _, _, _, _, _, _, _, _, _, _, _, _, _, _], _, _ => rfl
theorem length_tupL {t : Tup} (h : t.sb.length = 16) (h' : t.db.length = 16) : (tupL t).length = 37 := by simp [tupL, length_adL h, length_adL h']
theorem info_int : (Try.prog.info? 3).map (·.size) = some 1 := by kernel_rfl

end Go.Proofs.Ytcfckhdohcaffaa

end
section
/-
  Whether two tuples are one.
-/
namespace Go.Proofs.Ytcfckhdohcaffaa
open Go.RowKit
set_option maxRecDepth 100000
set_option linter.unusedVariables false

theorem part_adr (X S : Array Value) (o : Nat) (hs : X.size = 37) (ho : o + 17 ≤ 37) (h1 : X.extract o (o + 17) = S) (w : World) : (part 24 X o).run Try.prog w = .ok (.agg S) w := by
  have e1 : (isAgg 24).run Try.prog w = .ok true w := by kernel_rfl
  simp [part, e1, h1]
theorem part_int (X : Array Value) (o : Nat) (n : Int) (h0 : X[o]? = some (.int .i64 n)) (w : World) : (part 3 X o).run Try.prog w = .ok (.int .i64 n) w := by
  have hu := Try.underlying3
  simp [part, isAgg, run_underlying hu, h0]
theorem fields_tu : (Try.prog.fieldsOf 52).toList.map (fun f => (f.type, f.offset, f.name)) = [(24, 0, "Src"), (24, 17, "Dst"), (3, 34, "Proto"), (3, 35, "SrcPort"), (3, 36, "DstPort")] := by kernel_rfl
theorem under_tu : Try.prog.underlying 52 = some (.struct (Try.prog.fieldsOf 52)) := by kernel_rfl
theorem held_tu : Try.prog.stoodInHeld 52 = false := by kernel_rfl
theorem list_five {α β : Type} {g : α → β} {a b c d e : β} : ∀ {L : List α}, L.map g = [a, b, c, d, e] → ∃ x y z u v, L = [x, y, z, u, v] ∧ g x = a ∧ g y = b ∧ g z = c ∧ g u = d ∧ g v = e
  | [x, y, z, u, v], h => by simp at h; exact ⟨x, y, z, u, v, rfl, h⟩
  | [], h => by simp at h
  | [_], h => by simp at h
  | [_, _], h => by simp at h
  | [_, _, _], h => by simp at h
  | [_, _, _, _], h => by simp at h
  | _ :: _ :: _ :: _ :: _ :: _ :: _, h => by simp at h
/-- whether they are one. -/
def sameT (t u : Tup) : Bool := (t.sv == u.sv && t.sb == u.sb) && ((t.dv == u.dv && t.db == u.db) && (t.p == u.p && (t.s == u.s && t.d == u.d)))
theorem sameT_iff (t u : Tup) : sameT t u = true ↔ t = u := by
  unfold sameT
  simp only [Bool.and_eq_true, beq_iff_eq]
  constructor
  · rintro ⟨h1, h2, h3, h4, h5⟩; exact Tup.ext' h1 h2 h3 h4 h5
  · rintro rfl; exact ⟨⟨rfl, rfl⟩, ⟨rfl, rfl⟩, rfl, rfl, rfl⟩
set_option maxHeartbeats 1000000 in
theorem equalIn_tu (d : Nat) (w : World) (X Y : Array Value) (t u : Tup) (h : TuV X t) (h' : TuV Y u) : (Op.equalIn (d + 5) 52 (.agg X) (.agg Y)).run Try.prog w = .ok (sameT t u) w := by
  rw [run_equalIn_struct w (d + 4) 52 X Y under_tu held_tu]
  obtain ⟨f0, f1, f2, f3, f4, hfs, e0, e1, e2, e3, e4⟩ := list_five fields_tu
  rw [hfs]
  simp only [Prod.mk.injEq] at e0 e1 e2 e3 e4
  obtain ⟨t0, o0, n0⟩ := e0
  obtain ⟨t1, o1, n1⟩ := e1
  obtain ⟨t2, o2, n2⟩ := e2
  obtain ⟨t3, o3, n3⟩ := e3
  obtain ⟨t4, o4, n4⟩ := e4
  simp only [Op.eqFields, t0, o0, n0, t1, o1, n1, t2, o2, n2, t3, o3, n3, t4, o4, n4]
  rw [if_pos (by decide), if_pos (by decide), if_pos (by decide), if_pos (by decide), if_pos (by decide)]
  obtain ⟨-, -, a3, a4, a5⟩ := h.at
  obtain ⟨-, -, b3, b4, b5⟩ := h'.at
  have E1 := equalIn_ad d w _ _ _ _ _ _ (AdV.mk' (v := t.sv) h.ls) (AdV.mk' (v := u.sv) h'.ls)
  have E2 := equalIn_ad d w _ _ _ _ _ _ (AdV.mk' (v := t.dv) h.ld) (AdV.mk' (v := u.dv) h'.ld)
  have E3 := run_equalIn_int (P := Try.prog) w (d + 3) 3 .i64 .i64 t.p u.p Try.underlying3
  have E4 := run_equalIn_int (P := Try.prog) w (d + 3) 3 .i64 .i64 t.s u.s Try.underlying3
  have E5 := run_equalIn_int (P := Try.prog) w (d + 3) 3 .i64 .i64 t.d u.d Try.underlying3
  have P1 := part_adr X _ 0 h.size (by decide) h.src w
  have P2 := part_adr X _ 17 h.size (by decide) h.dst w
  have Q1 := part_adr Y _ 0 h'.size (by decide) h'.src w
  have Q2 := part_adr Y _ 17 h'.size (by decide) h'.dst w
  simp only [Sem.run_bind, P1, Q1, Result.andThen_ok, E1]
  unfold sameT
  cases (t.sv == u.sv && t.sb == u.sb)
  · simp
  · simp only [Bool.not_true, Bool.false_eq_true, if_false, Bool.true_and, Sem.run_bind, P2, Q2, Result.andThen_ok, E2]
    cases (t.dv == u.dv && t.db == u.db)
    · simp
    · simp only [Bool.not_true, Bool.false_eq_true, if_false, Bool.true_and, Sem.run_bind, part_int X _ _ a3, part_int Y _ _ b3, Result.andThen_ok, E3]
      cases (t.p == u.p)
      · simp
      · simp only [Bool.not_true, Bool.false_eq_true, if_false, Bool.true_and, Sem.run_bind, part_int X _ _ a4, part_int Y _ _ b4, Result.andThen_ok, E4]
        cases (t.s == u.s)
        · simp
        · simp only [Bool.not_true, Bool.false_eq_true, if_false, Bool.true_and, Sem.run_bind, part_int X _ _ a5, part_int Y _ _ b5, Result.andThen_ok, E5]
          cases (t.d == u.d) <;> simp
theorem eql_tu (w : World) (X Y : Array Value) (t u : Tup) (h : TuV X t) (h' : TuV Y u) : (binOp .eql 52 (.agg X) (.agg Y)).run Try.prog w = .ok (.bool (sameT t u)) w := by
  rw [run_eql_struct, equalIn_tu 9995 w X Y t u h h']
  rfl
theorem neq_tu (w : World) (X Y : Array Value) (t u : Tup) (h : TuV X t) (h' : TuV Y u) : (binOp .neq 52 (.agg X) (.agg Y)).run Try.prog w = .ok (.bool (!sameT t u)) w := by
  rw [run_neq_struct, equalIn_tu 9995 w X Y t u h h']
  rfl
end Go.Proofs.Ytcfckhdohcaffaa

end
