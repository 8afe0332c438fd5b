/-
  Whether two Specs are one; which one is ahead.
-/
import Derived.Test.YtmbddengmheeeaaLfe
import Derived.Laws.StructEq
namespace Go.Proofs.Ytmbddengmheeeaa
open Go.RowKit
set_option maxRecDepth 100000
set_option linter.unusedVariables false
set_option linter.unusedSimpArgs false

theorem grown_lf (w : World) (g i : Nat) (u : Value) : w.grownBy (w.setCell ⟨g, i, none⟩ u) (some g) :=
  ⟨rfl, rfl, rfl, by simp, fun k _ hk => Below.heap_setCell w ⟨g, i, none⟩ u k (fun e => hk (by rw [e]))⟩
theorem lf_float (d : Nat) (w : World) (t : TypeId) (k k' : FloatKind) (a b : Nat) (h : Try.prog.underlying t = some (.float k')) : (Op.equalIn (d + 1) t (.float k a) (.float k b)).run Try.prog w = .ok (k.format.order a b == some .eq) w := by
  simp [Op.equalIn, run_underlying h]; rfl
theorem lf_adr (X S : Array Value) (h1 : X.extract 2 19 = S) (hs : X.size = 20) (w : World) : (part 24 X 2).run Try.prog w = .ok (.agg S) w := by
  have e1 : (isAgg 24).run Try.prog w = .ok true w := by kernel_rfl
  have e2 : (sizeOf 24).run Try.prog w = .ok 17 w := by kernel_rfl
  simp [part, e1, e2, h1]
theorem lf_i64 (X : Array Value) (o : Nat) (n : Int) (h0 : X[o]? = some (.int .i64 n)) (w : World) : (part 2 X o).run Try.prog w = .ok (.int .i64 n) w := by
  have hu := Try.underlying2
  simp [part, isAgg, run_underlying hu, h0]
theorem lf_int (X : Array Value) (o : Nat) (n : Int) (h0 : X[o]? = some (.int .i64 n)) (w : World) : (part 3 X o).run Try.prog w = .ok (.int .i64 n) w := by
  have hu := Try.underlying3
  simp [part, isAgg, run_underlying hu, h0]
theorem lf_fl (X : Array Value) (o : Nat) (n : Nat) (h0 : X[o]? = some (.float .f64 n)) (w : World) : (part 25 X o).run Try.prog w = .ok (.float .f64 n) w := by
  have hu := Try.underlying25
  simp [part, isAgg, run_underlying hu, h0]
theorem lf_fields : (Try.prog.fieldsOf 31).toList.map (fun f => (f.type, f.offset, f.name)) = [(2, 0, "Stamp"), (3, 1, "By"), (24, 2, "Addr"), (25, 19, "Weight")] := by kernel_rfl
theorem lf_under : Try.prog.underlying 31 = some (.struct (Try.prog.fieldsOf 31)) := by kernel_rfl
theorem lf_held : Try.prog.stoodInHeld 31 = false := by kernel_rfl
theorem list_four4 {α β : Type} {g : α → β} {a b c d : β} : ∀ {L : List α}, L.map g = [a, b, c, d] → ∃ x y z u, L = [x, y, z, u] ∧ g x = a ∧ g y = b ∧ g z = c ∧ g u = d
  | [x, y, z, u], h => by simp at h; exact ⟨x, y, z, u, rfl, h⟩
  | [], h => by simp at h
  | [_], h => by simp at h
  | [_, _], h => by simp at h
  | [_, _, _], h => by simp at h
  | _ :: _ :: _ :: _ :: _ :: _, h => by simp at h
theorem SpV.at {X : Array Value} {s : Spc} (h : SpV X s) : X[0]? = some (.int .i64 s.st) ∧ X[1]? = some (.int .i64 s.by_) ∧ X[19]? = some (.float .f64 s.wt) := by
  have hl := len_adL s.av h.la
  refine ⟨by rw [h.eq]; rfl, by rw [h.eq]; rfl, ?_⟩
  rw [h.eq, List.getElem?_toArray]
  unfold spL
  rw [List.getElem?_cons_succ, List.getElem?_cons_succ, List.getElem?_append_right (by omega), hl]; rfl
/-- as Go's == has it. -/
def eqSp (s t : Spc) : Bool := s.st == t.st && (s.by_ == t.by_ && ((s.av == t.av && s.ab == t.ab) && (FloatKind.f64.format.order s.wt t.wt == some .eq)))
set_option maxHeartbeats 1000000 in
theorem equalIn_sp (d : Nat) (w : World) (X Y : Array Value) (s t : Spc) (h : SpV X s) (h' : SpV Y t) : (Op.equalIn (d + 5) 31 (.agg X) (.agg Y)).run Try.prog w = .ok (eqSp s t) w := by
  rw [run_equalIn_struct w (d + 4) 31 X Y lf_under lf_held]
  obtain ⟨f0, f1, f2, f3, hfs, e0, e1, e2, e3⟩ := list_four4 lf_fields
  rw [hfs]
  simp only [Prod.mk.injEq] at e0 e1 e2 e3
  obtain ⟨t0, o0, n0⟩ := e0
  obtain ⟨t1, o1, n1⟩ := e1
  obtain ⟨t2, o2, n2⟩ := e2
  obtain ⟨t3, o3, n3⟩ := e3
  simp only [Op.eqFields, t0, o0, n0, t1, o1, n1, t2, o2, n2, t3, o3, n3]
  rw [if_pos (by decide), if_pos (by decide), if_pos (by decide), if_pos (by decide)]
  obtain ⟨a0, a1, a3⟩ := h.at
  obtain ⟨b0, b1, b3⟩ := h'.at
  have E0 := run_equalIn_int (P := Try.prog) w (d + 3) 2 .i64 .i64 s.st t.st Try.underlying2
  have E1 := run_equalIn_int (P := Try.prog) w (d + 3) 3 .i64 .i64 s.by_ t.by_ Try.underlying3
  have E2 := equalIn_ad d w _ _ _ _ _ _ (AdV.mk' (v := s.av) h.la) (AdV.mk' (v := t.av) h'.la)
  have E3 := lf_float (d + 3) w 25 .f64 .f64 s.wt t.wt Try.underlying25
  have P2 := lf_adr X _ h.addr h.size w
  have Q2 := lf_adr Y _ h'.addr h'.size w
  unfold eqSp
  simp only [Sem.run_bind, lf_i64 X _ _ a0, lf_i64 Y _ _ b0, Result.andThen_ok, E0]
  cases (s.st == t.st)
  · simp
  · simp only [Bool.not_true, Bool.false_eq_true, if_false, Bool.true_and, Sem.run_bind, lf_int X _ _ a1, lf_int Y _ _ b1, Result.andThen_ok, E1]
    cases (s.by_ == t.by_)
    · simp
    · simp only [Bool.not_true, Bool.false_eq_true, if_false, Bool.true_and, Sem.run_bind, P2, Q2, Result.andThen_ok, E2]
      cases (s.av == t.av && s.ab == t.ab)
      · simp
      · simp only [Bool.not_true, Bool.false_eq_true, if_false, Bool.true_and, Sem.run_bind, lf_fl X _ _ a3, lf_fl Y _ _ b3, Result.andThen_ok, E3]
        cases (FloatKind.f64.format.order s.wt t.wt == some .eq) <;> simp
theorem eql_sp (w : World) (X Y : Array Value) (s t : Spc) (h : SpV X s) (h' : SpV Y t) : (binOp .eql 31 (.agg X) (.agg Y)).run Try.prog w = .ok (.bool (eqSp s t)) w := by
  rw [run_eql_struct, equalIn_sp 9995 w X Y s t h h']
  rfl
def zeroW (s : Spc) : Spc := { s with wt := 0 }
theorem sp_set19 {s : Spc} (h : s.ab.length = 16) : (spL s).toArray.setIfInBounds 19 (.float .f64 0) = (spL (zeroW s)).toArray := by
  have hl := len_adL s.av h
  rw [List.setIfInBounds_toArray]
  congr 1
  unfold spL zeroW
  simp only [List.set_cons_succ]
  rw [List.set_append_right _ _ (by omega), hl]; rfl
def sameSp (s t : Spc) : Bool := sameB s.wt t.wt && (s.st == t.st && (s.by_ == t.by_ && (s.av == t.av && s.ab == t.ab)))
theorem eq_zeroW (s t : Spc) : eqSp (zeroW s) (zeroW t) = (s.st == t.st && (s.by_ == t.by_ && (s.av == t.av && s.ab == t.ab))) := by
  have h0 : (FloatKind.f64.format.order 0 0 == some .eq) = true := by rw [order_zero (by decide) (by decide)]; decide
  unfold eqSp zeroW
  simp only [h0, Bool.and_true]
theorem rs_spec : rowSize Try.prog 31 = some 20 := by kernel_rfl
theorem info_spec : (Try.prog.info? 31).map (·.size) = some 20 := by kernel_rfl
attribute [local go_sem ↓] exec_span exec_put exec_build heap_alloc_new heap_old
attribute [local go_sem] spanQ_ptr spanC_some heap_of_drew heap_of_drewN rs_ad rs_spec putAt_ptr putOk_ptr oldOk_some store_fl

set_option maxHeartbeats 4000000 in
theorem samesp_any (w : World) (X Y : Array Value) (s t : Spc) (h : SpV X s) (h' : SpV Y t) : Calls Try.prog 50 #[.agg X, .agg Y] w (BoolP w (sameSp s t)) := by
  have hF : Hid (∀ w' r, Below w.heap.size w w' → r = sameSp s t → BoolP w (sameSp s t) (.returned (.bool r)) w') := hide fun w' r hb hr => ⟨by rw [hr], hb⟩
  have he : sameSp s t = (sameB s.wt t.wt && eqSp (zeroW s) (zeroW t)) := by rw [eq_zeroW]; rfl
  generalize sameSp s t = R at hF he ⊢
  have KS := hide (fun W => sameW_any s.wt t.wt W h.wf h'.wf)
  obtain ⟨W, hW, r1, r2, hz, hb⟩ := two_new w X Y 31
  obtain ⟨-, -, a3⟩ := h.cells r1
  obtain ⟨-, -, b3⟩ := h'.cells r2
  obtain ⟨q, hq⟩ : ∃ q, q = sameB s.wt t.wt := ⟨_, rfl⟩
  rw [← hq] at KS he
  have HB := hide hb
  have HZ := hide hz
  have hxs := h.size
  have hys := h'.size
  have fa := frozen_of_row W w.heap.size 19 _ _ r1
  have fb := frozen_of_row W (w.heap.size + 1) 19 _ _ r2
  have HH := hide h
  have HH' := hide h'
  have HE := hide he
  clear hq hb hz h h' he
  go_enter Try.func50, Try.ntmps50
  go_wp2_with fail
  refine (KS.out _).mono ?_
  rintro e w0 ⟨rfl, rfl⟩
  -- both weights are struck out
  have q1 := heap_setCell_same W w.heap.size 19 _ _ (.float .f64 0) r1
  have g1 := grown_lf W w.heap.size 19 (.float .f64 0)
  obtain ⟨w1, hw1⟩ : ∃ w1, W.setCell ⟨w.heap.size, 19, none⟩ (.float .f64 0) = w1 := ⟨_, rfl⟩
  rw [hw1] at q1 g1
  have q2 : w1.heap[w.heap.size + 1]? = some (.cells Y 31 (0, 0)) := (g1.block _ (by have := HZ.out; omega) (by simp)).trans r2
  have c2 := (HH'.out.cells q2).2.2
  have f2 := frozen_of_row w1 (w.heap.size + 1) 19 _ _ q2
  have q3 := heap_setCell_same w1 (w.heap.size + 1) 19 _ _ (.float .f64 0) q2
  have g3 := grown_lf w1 (w.heap.size + 1) 19 (.float .f64 0)
  obtain ⟨w2, hw2⟩ : ∃ w2, w1.setCell ⟨w.heap.size + 1, 19, none⟩ (.float .f64 0) = w2 := ⟨_, rfl⟩
  rw [hw2] at q3 g3
  have q4 := (g3.block w.heap.size (by have := g1.size; have := HZ.out; omega) (by simp)).trans q1
  rw [HH.out.eq, sp_set19 HH.out.la] at q4
  rw [HH'.out.eq, sp_set19 HH'.out.la] at q3
  have V1 : SpV (spL (zeroW s)).toArray (zeroW s) := ⟨rfl, HH.out.la, by show 0 < 2 ^ 64; decide⟩
  have V2 : SpV (spL (zeroW t)).toArray (zeroW t) := ⟨rfl, HH'.out.la, by show 0 < 2 ^ 64; decide⟩
  have hEQ := fun W => eql_sp W _ _ _ _ V1 V2
  have v1s := V1.size
  have v1x := V1.x0
  have v2s := V2.size
  have v2x := V2.x0
  generalize (spL (zeroW s)).toArray = X1 at q4 hEQ v1s v1x
  generalize (spL (zeroW t)).toArray = Y1 at q3 hEQ v2s v2x
  generalize eqSp (zeroW s) (zeroW t) = r at hEQ HE
  have B2 := hide ((HB.out.grown g1 (by have := HZ.out; omega) (fun k hk => by cases hk; exact Nat.le_refl _)).grown g3 (by have := HZ.out; have := g1.size; omega) (fun k hk => by cases hk; omega))
  clear g1 g3 q1 q2 V1 V2 r1 r2 hW
  cases q
  · have hR : Hid (R = false) := hide (by rw [HE.out]; rfl)
    go_wp2
    go_ret
    exact hF.out _ _ B2.out hR.out.symm
  · have hR : Hid (R = r) := hide (by rw [HE.out]; rfl)
    go_wp2
    go_ret
    exact hF.out _ _ B2.out hR.out.symm
end Go.Proofs.Ytmbddengmheeeaa
