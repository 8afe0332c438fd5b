/-
  The walks of the other way round.
-/
import Derived.Test.YtmhoedbhfaocjabTut
import Derived.Laws.CopyOwn
namespace Go.Proofs.Ytmhoedbhfaocjab
open Go.RowKit
attribute [local go_sem ↓] exec_span exec_put exec_build heap_alloc_new heap_old
attribute [local go_sem] spanQ_ptr spanC_some heap_of_drew heap_of_drewN rs_arr rs_ad rs_tup putAt_ptr putOk_ptr oldOk_some built_none World.setRow_alloc_new
set_option maxRecDepth 100000
set_option linter.unusedVariables false
set_option linter.unusedSimpArgs false

theorem run_storeVar_part {P : Program} (w : World) (g o : Nat) (ty t : TypeId) (cs cur : List Value) (hg : w.heap[g]? = some (.cells cur.toArray t (0, 0))) (hfit : o + cs.length ≤ cur.length) (hi : (P.info? ty).map (·.size) = some cs.length) (h1 : ∀ v ∈ cs, v.oneCell' = true) :
    (storeVar ty ⟨g, o, none⟩ (.agg cs.toArray)).run P w = .ok () (w.setRow g (splice cur o cs).toArray) := by
  have := run_storeCells_at (P := P) g o t cs 0 cur.toArray w hg (by simpa using hfit) h1
  cases hq : P.info? ty with
  | none => simp [hq] at hi
  | some i =>
    have hs : cs.length = i.size := by simp [hq] at hi; omega
    simp only [Nat.add_zero] at this
    simp [storeVar, sizeOf, typeInfo, hq, Value.cells, hs, this]
    simp [splice, hs]

theorem wpList_store_part {P : Program} {w : World} {ops : Array Oper} {rest : List Oper} {o : Oper} {a : Act} {Q : Exit → Act → World → Prop} (hgd : o.guard = none) (ty : TypeId) (x y : Operand)
    (ho : o.op = .store ty x y) (g off : Nat) (hx : a.eval x = .pointer (some ⟨g, off, none⟩)) (cs cur : List Value) (hy : a.eval y = .agg cs.toArray) (t : TypeId) (hg : w.heap[g]? = some (.cells cur.toArray t (0, 0)))
    (hfit : off + cs.length ≤ cur.length) (hi : (P.info? ty).map (·.size) = some cs.length) (h1 : ∀ v ∈ cs, v.oneCell' = true)
    (h : ∀ w', Hid (w' = w.setRow g (splice cur off cs).toArray) → Hid (w'.heap[g]? = some (.cells (splice cur off cs).toArray t (0, 0))) → wpList P ops Q rest (a.put o.dst undef) w') :
    wpList P ops Q (o :: rest) a w := by
  refine wpList_plain hgd fun K hK => ?_
  have hrun := run_storeVar_part (P := P) w g off ty t cs cur hg hfit hi h1
  unfold Oper.wp
  simp [execOp, ho, Instr.storeAt, Instr.sureAddr, hx, hy, hrun, Result.andThen]
  exact hK _ _ (h _ rfl (show _ = _ from setRow_heap w g _ _ t _ hg))
theorem wpList_store_int {P : Program} {w : World} {ops : Array Oper} {rest : List Oper} {o : Oper} {a : Act} {Q : Exit → Act → World → Prop} (hgd : o.guard = none) (ty : TypeId) (x y : Operand)
    (ho : o.op = .store ty x y) (g off : Nat) (hx : a.eval x = .pointer (some ⟨g, off, none⟩)) (k : IntKind) (n : Int) (cur : List Value) (hy : a.eval y = .int k n) (t : TypeId) (hg : w.heap[g]? = some (.cells cur.toArray t (0, 0)))
    (hfit : off + 1 ≤ cur.length) (hi : (P.info? ty).map (·.size) = some 1)
    (h : ∀ w', Hid (w' = w.setRow g (splice cur off [.int k n]).toArray) → Hid (w'.heap[g]? = some (.cells (splice cur off [.int k n]).toArray t (0, 0))) → wpList P ops Q rest (a.put o.dst undef) w') :
    wpList P ops Q (o :: rest) a w := by
  refine wpList_plain hgd fun K hK => ?_
  have hrun : (storeVar ty ⟨g, off, none⟩ (.int k n)).run P w = .ok () (w.setRow g (splice cur off [.int k n]).toArray) := run_storeVar_part (P := P) w g off ty t [.int k n] cur hg hfit hi (fun v hv => by rw [List.mem_singleton.1 hv]; rfl)
  unfold Oper.wp
  simp [execOp, ho, Instr.storeAt, Instr.sureAddr, hx, hy, hrun, Result.andThen]
  exact hK _ _ (h _ rfl (show _ = _ from setRow_heap w g _ _ t _ hg))

theorem turn_one {l l' : List UInt8} (h : l.length = 16) (h' : l'.length = 16) (v v' : Bool) (p s d : Int) : splice (splice (tupL ⟨v, l, v', l', p, s, d⟩) 0 (adL v' l')) 17 (adL v l) = tupL ⟨v', l', v, l, p, s, d⟩ := by
  have e1 := length_adL (v := v) h
  have e2 := length_adL (v := v') h'
  simp only [splice, tupL, List.take_zero, List.nil_append, Nat.zero_add, e1, e2]
  rw [List.drop_append_of_le_length (by omega), List.drop_of_length_le (l := adL v l) (by omega), List.nil_append, List.take_append_of_le_length (by omega), List.take_of_length_le (by omega)]
  rw [List.drop_append, e2, List.drop_of_length_le (l := adL v' l') (by omega), List.nil_append, List.drop_append, e2, List.drop_of_length_le (l := adL v' l') (by omega), List.nil_append]
  rfl
theorem turn_two {l l' : List UInt8} (h : l.length = 16) (h' : l'.length = 16) (v v' : Bool) (p s d : Int) : splice (splice (tupL ⟨v', l', v, l, p, s, d⟩) 35 [.int .i64 d]) 36 [.int .i64 s] = tupL ⟨v', l', v, l, p, d, s⟩ := by
  match l, l', h, h' with
  | [_, _, _, _, _, _, _, _, _, _, _, _, _, _, _, _], [_, _, _, _, _, _, _, _, _, _, _, _, _, _, _, _], _, _ => rfl
theorem turn_three {l l' : List UInt8} (h : l.length = 16) (h' : l'.length = 16) (v v' : Bool) (p s d : Int) : ((tupL ⟨v', l', v, l, p, s, d⟩).toArray.setIfInBounds 35 (.int .i64 d)).setIfInBounds 36 (.int .i64 s) = (tupL ⟨v', l', v, l, p, d, s⟩).toArray := by
  match l, l', h, h' with
  | [_, _, _, _, _, _, _, _, _, _, _, _, _, _, _, _], [_, _, _, _, _, _, _, _, _, _, _, _, _, _, _, _], _, _ => rfl
theorem length_tupL {t : Tup} (h : t.sb.length = 16) (h' : t.db.length = 16) : (tupL t).length = 37 := by simp [tupL, length_adL h, length_adL h']
theorem info_int : (Try.prog.info? 3).map (·.size) = some 1 := by kernel_rfl

set_option maxHeartbeats 4000000 in
theorem turn_any (w : World) (X : Array Value) (t : Tup) (h : TuV X t) :
    Calls Try.prog 32 #[.agg X] w fun e w' => e = .returned (.agg (tupL (turnT t)).toArray) ∧ Below w.heap.size w w' := by
  go_enter Try.func32, Try.ntmps32
  have hxs := h.size
  obtain ⟨sv, sb, dv, db, pp, ps, pd⟩ := t
  obtain ⟨S, hS⟩ : ∃ S, S = (adL sv sb).toArray := ⟨_, rfl⟩
  obtain ⟨D, hD⟩ : ∃ D, D = (adL dv db).toArray := ⟨_, rfl⟩
  have hsrc : X.extract 0 17 = S := h.src.trans hS.symm
  have hdst : X.extract 17 34 = D := h.dst.trans hD.symm
  have hls : Hid (sb.length = 16) := hide h.ls
  have hld : Hid (db.length = 16) := hide h.ld
  obtain ⟨W, hW, h1, h2, hz, hb⟩ := two_blocks w (.cells X 43) (.cells tupZ 43)
  rw [tupZ_ok] at hW
  have hzs := tupZ_size
  have hzo : allOne tupZ = true := tupZ_tu.one
  have hB := hide hb
  have H1 : Hid (W.heap[w.heap.size]? = some (.cells (tupL ⟨sv, sb, dv, db, pp, ps, pd⟩).toArray 43 (0, 0))) := hide (by rw [← h.eq]; exact h1)
  have G1 := hide h2
  have HS := hide hS
  have HD := hide hD
  obtain ⟨R, hR⟩ : ∃ R, R = (tupL (turnT ⟨sv, sb, dv, db, pp, ps, pd⟩)).toArray := ⟨_, rfl⟩
  have hRT : TuV R (turnT ⟨sv, sb, dv, db, pp, ps, pd⟩) := by rw [hR]; exact TuV.mk' hld.out hls.out
  rw [← hR]
  have HR := hide hR
  have hrs := hRT.size
  have hro := hRT.one
  have hr0 := hRT.x0
  have HL := hide (fun (a b : Bool) (p s d : Int) => length_tupL (t := ⟨a, sb, b, db, p, s, d⟩) hls.out hld.out)
  have HL' := hide (fun (a b : Bool) (p s d : Int) => length_tupL (t := ⟨a, db, b, sb, p, s, d⟩) hld.out hls.out)
  have HA := hide (length_adL (v := sv) hls.out)
  have HA' := hide (length_adL (v := dv) hld.out)
  have eL : ∀ (v : Bool) (l : List UInt8), ∀ u ∈ adL v l, u.oneCell' = true := fun v l u hu => by
    rcases List.mem_cons.1 hu with rfl | hu
    · rfl
    · exact byteV_one l u hu
  have EL := hide eL
  have T1 := hide (turn_one hls.out hld.out sv dv pp ps pd)
  have T2 := hide (turn_two hls.out hld.out sv dv pp ps pd)
  have LS := hide (fun (L : List Value) (o : Nat) (cs : List Value) (h : o + cs.length ≤ L.length) => length_splice L o cs h)
  clear hz hb hS hD eL hRT hR h
  have hst2 : (storeCells ⟨w.heap.size, 0, none⟩ D.toList).run Try.prog W = .ok () (W.setRow w.heap.size (splice (tupL ⟨sv, sb, dv, db, pp, ps, pd⟩) 0 (adL dv db)).toArray) := by
    have := run_storeCells_at (P := Try.prog) w.heap.size 0 43 (adL dv db) 0 _ W H1.out (by have h1 := HL.out sv dv pp ps pd; have h2 := HA'.out; simp only [List.size_toArray]; omega) (EL.out _ _)
    rw [HD.out]
    simpa [splice] using this
  obtain ⟨W2, hW2⟩ : ∃ W2, W2 = W.setRow w.heap.size (splice (tupL ⟨sv, sb, dv, db, pp, ps, pd⟩) 0 (adL dv db)).toArray := ⟨_, rfl⟩
  rw [← hW2] at hst2
  have H2 : Hid (W2.heap[w.heap.size]? = some (.cells (splice (tupL ⟨sv, sb, dv, db, pp, ps, pd⟩) 0 (adL dv db)).toArray 43 (0, 0))) := hide (by rw [hW2]; exact setRow_heap W _ _ _ _ _ H1.out)
  have G2 : Hid (W2.heap[w.heap.size + 1]? = some (.cells tupZ 43 (0, 0))) := hide (by rw [hW2, setRow_other _ _ _ _ (by omega)]; exact G1.out)
  have B2 : Hid (Below w.heap.size w W2) := hide (by rw [hW2]; exact below_setRow hB.out (Nat.le_refl _) _)
  have hst3 : (storeCells ⟨w.heap.size, 17, none⟩ S.toList).run Try.prog W2 = .ok () (W2.setRow w.heap.size (splice (splice (tupL ⟨sv, sb, dv, db, pp, ps, pd⟩) 0 (adL dv db)) 17 (adL sv sb)).toArray) := by
    have := run_storeCells_at (P := Try.prog) w.heap.size 17 43 (adL sv sb) 0 _ W2 H2.out (by have h1 := LS.out (tupL ⟨sv, sb, dv, db, pp, ps, pd⟩) 0 (adL dv db) (by rw [HL.out, HA'.out]; decide); have h3 := HL.out sv dv pp ps pd; have h2 := HA.out; simp only [List.size_toArray]; omega) (EL.out _ _)
    rw [HS.out]
    generalize splice (tupL ⟨sv, sb, dv, db, pp, ps, pd⟩) 0 (adL dv db) = Z at this ⊢
    simpa [splice] using this
  rw [T1.out] at hst3
  obtain ⟨W3, hW3⟩ : ∃ W3, W3 = W2.setRow w.heap.size (tupL ⟨dv, db, sv, sb, pp, ps, pd⟩).toArray := ⟨_, rfl⟩
  rw [← hW3] at hst3
  have H3 : Hid (W3.heap[w.heap.size]? = some (.cells (tupL ⟨dv, db, sv, sb, pp, ps, pd⟩).toArray 43 (0, 0))) := hide (by rw [hW3]; exact setRow_heap W2 _ _ _ _ _ H2.out)
  have G3 : Hid (W3.heap[w.heap.size + 1]? = some (.cells tupZ 43 (0, 0))) := hide (by rw [hW3, setRow_other _ _ _ _ (by omega)]; exact G2.out)
  have B3 : Hid (Below w.heap.size w W3) := hide (by rw [hW3]; exact below_setRow B2.out (Nat.le_refl _) _)
  obtain ⟨Y, hY⟩ : ∃ Y, Y = (tupL ⟨dv, db, sv, sb, pp, ps, pd⟩).toArray := ⟨_, rfl⟩
  have hYT : TuV Y ⟨dv, db, sv, sb, pp, ps, pd⟩ := by rw [hY]; exact TuV.mk' hld.out hls.out
  have hys := hYT.size
  have h3 : W3.heap[w.heap.size]? = some (.cells Y 43 (0, 0)) := by rw [hY]; exact H3.out
  have g3 := G3.out
  obtain ⟨i1, i2, i3, i4, i5⟩ := hYT.cells h3
  have HY := hide hY
  have f3 : W3.frozen? ⟨w.heap.size, 35, none⟩ = false := frozen_of_row W3 _ _ _ _ h3
  obtain ⟨W4, hW4⟩ : ∃ W4, W4 = W3.setRow w.heap.size (Y.setIfInBounds 35 (.int .i64 pd)) := ⟨_, rfl⟩
  have hs3 := setCell_eq_setRow W3 w.heap.size 35 Y 43 (0, 0) (.int .i64 pd) h3
  rw [← hW4] at hs3
  have h4 : W4.heap[w.heap.size]? = some (.cells (Y.setIfInBounds 35 (.int .i64 pd)) 43 (0, 0)) := by rw [hW4]; exact setRow_heap W3 _ _ _ _ _ h3
  have G4 : Hid (W4.heap[w.heap.size + 1]? = some (.cells tupZ 43 (0, 0))) := hide (by rw [hW4, setRow_other _ _ _ _ (by omega)]; exact G3.out)
  have B4 : Hid (Below w.heap.size w W4) := hide (by rw [hW4]; exact below_setRow B3.out (Nat.le_refl _) _)
  have f4 : W4.frozen? ⟨w.heap.size, 36, none⟩ = false := frozen_of_row W4 _ _ _ _ h4
  have q4 : W4.cell? ⟨w.heap.size, 36, none⟩ = some (.int .i64 pd) := by rw [cell_of_row W4 _ _ _ _ _ h4, Array.getElem?_setIfInBounds_ne (by decide)]; exact (cell_of_row W3 _ _ _ _ _ h3).symm.trans i5
  have hYR : (Y.setIfInBounds 35 (.int .i64 pd)).setIfInBounds 36 (.int .i64 ps) = R := by
    rw [HY.out, HR.out]
    exact turn_three hls.out hld.out sv dv pp ps pd
  obtain ⟨W5, hW5⟩ : ∃ W5, W5 = W4.setRow w.heap.size R := ⟨_, rfl⟩
  have hs4 := setCell_eq_setRow W4 w.heap.size 36 _ 43 (0, 0) (.int .i64 ps) h4
  rw [hYR, ← hW5] at hs4
  have h5 : W5.heap[w.heap.size]? = some (.cells R 43 (0, 0)) := by rw [hW5]; exact setRow_heap W4 _ _ _ _ _ h4
  have g5 : W5.heap[w.heap.size + 1]? = some (.cells tupZ 43 (0, 0)) := by rw [hW5, setRow_other _ _ _ _ (by omega)]; exact G4.out
  have G5 := hide g5
  have B5 : Hid (Below w.heap.size w W5) := hide (by rw [hW5]; exact below_setRow B4.out (Nat.le_refl _) _)
  clear hW2 hW3 hW4 hW5 hYT hY hYR i1 i2 i3 h4
  have hds : D.size = 17 := by rw [HD.out]; simpa using HA'.out
  have hss : S.size = 17 := by rw [HS.out]; simpa using HA.out
  go_wp2
  refine bodyPost_ret (results_cell_row (fn := Try.f32) Try.results32 _ _ (w.heap.size + 1) 43 R (0, 0) _ rfl (setRow_heap W5 _ _ _ _ _ G5.out) Try.underlying43 rfl (by rw [hrs]; exact info_tup)) rfl ⟨rfl, below_setRow B5.out (by omega) _⟩
end Go.Proofs.Ytmhoedbhfaocjab
