/-
  A wheel asked: when something is due, how many things are, the clock, what is due first; one that is not there.
-/
import Derived.Test.YtjdedlmphghpnaaWht
namespace Go.Proofs.Ytjdedlmphghpnaa
open Go.RowKit
set_option maxRecDepth 100000
set_option linter.unusedVariables false
set_option linter.unusedSimpArgs false
attribute [local go_sem ↓] exec_span exec_put exec_build heap_alloc_new heap_old
attribute [local go_sem] spanQ_ptr spanC_some heap_of_drew heap_of_drewN putAt_ptr putOk_ptr oldOk_some World.setRow_alloc_new rs_Due built_due built_due0

theorem zero_i8 (w : World) : (zeroValue 2).run Try.prog w = .ok (.int .i64 0) w := by rw [Try.zeroValue2]
theorem look_nil (w : World) (id : Int) : (Instr.lookup 60 (.map none) (.int .i64 id) false).run Try.prog w = .ok (.int .i64 0) w := by kernel_rfl
theorem len_nil (w : World) (ty : TypeId) : (Builtin.len_ #[60] ty #[.map none]).run Try.prog w = .ok (.int .i64 0) w := by kernel_rfl
theorem mapv_look {w : World} {mv : Value} {T : List (Int × Value)} {D : List (Int × Int)} (h : MapV w mv T) (ht : TimesOk T D) (id : Int) : (Instr.lookup 60 mv (.int .i64 id) false).run Try.prog w = .ok (.int .i64 (atD id D)) w := by
  have e : (lookK T id).getD (.int .i64 0) = .int .i64 (atD id D) := by
    rw [ht.look]
    unfold atD
    cases findD id D <;> rfl
  rcases h with ⟨rfl, rfl⟩ | ⟨b, rfl, hm⟩
  · rw [look_nil]
    rw [lookK_nil] at e
    rw [← e]; rfl
  · have := hm.look (P := Try.prog) Try.underlying60 Try.underlying2 (zero_i8 w) id false
    rw [this, ← e]; rfl
theorem mapv_len {w : World} {mv : Value} {T : List (Int × Value)} {D : List (Int × Int)} (h : MapV w mv T) (ht : TimesOk T D) (ty : TypeId) : (Builtin.len_ #[60] ty #[mv]).run Try.prog w = .ok (.int .i64 (D.length : Int)) w := by
  rcases h with ⟨rfl, rfl⟩ | ⟨b, rfl, es, c, hb, hr, -⟩
  · rw [len_nil, ← ht.len]; rfl
  · rw [run_lenM Try.underlying60 hb hr ty, ht.len]
section
variable {w : World} {p : Nat} {now : Int} {mv : Value} {S : List Value} {lv : Value} {T : List (Int × Value)} {SL : Nat → List Int} {LL : List (Int × Int)}
theorem WhP.c0 (h : WhP w p now mv S lv T SL LL) : w.cell? ⟨p, 0, none⟩ = some (.int .i64 now) := (cell_of_row w p 0 _ _ (0, 0) h.blk).trans rfl
theorem WhP.c1 (h : WhP w p now mv S lv T SL LL) : w.cell? ⟨p, 1, none⟩ = some mv := (cell_of_row w p 1 _ _ (0, 0) h.blk).trans rfl
end
set_option maxHeartbeats 1000000 in
theorem atWp (w : World) (p : Nat) (mv : Value) (id z : Int) (c1 : w.cell? ⟨p, 1, none⟩ = some mv) (hl : (Instr.lookup 60 mv (.int .i64 id) false).run Try.prog w = .ok (.int .i64 z) w) :
    Calls Try.prog 23 #[.pointer (some ⟨p, 0, none⟩), .int .i64 id] w fun e w' => e = .returned (.int .i64 z) ∧ w = w' := by
  go_enter Try.func23, Try.ntmps23
  go_wp2
  go_ret
  exact ⟨rfl, rfl⟩
theorem atW_any {w : World} {p : Nat} {now : Int} {D : List (Int × Int)} {F : Nat → Prop} (h : WhW w p now D F) (id : Int) :
    Calls Try.prog 23 #[.pointer (some ⟨p, 0, none⟩), .int .i64 id] w fun e w' => e = .returned (.int .i64 (atD id D)) ∧ w = w' := by
  obtain ⟨mv, S, lv, T, h1, h2, h3, rfl⟩ := h
  exact atWp w p mv id _ h1.c1 (mapv_look h1.map h2 id)
set_option maxHeartbeats 1000000 in
theorem lenWp (w : World) (p : Nat) (mv : Value) (z : Int) (c1 : w.cell? ⟨p, 1, none⟩ = some mv) (hl : ∀ ty, (Builtin.len_ #[60] ty #[mv]).run Try.prog w = .ok (.int .i64 z) w) :
    Calls Try.prog 21 #[.pointer (some ⟨p, 0, none⟩)] w fun e w' => e = .returned (.int .i64 z) ∧ w = w' := by
  go_enter Try.func21, Try.ntmps21
  go_wp2
  go_ret
  exact ⟨rfl, rfl⟩
theorem lenW_any {w : World} {p : Nat} {now : Int} {D : List (Int × Int)} {F : Nat → Prop} (h : WhW w p now D F) :
    Calls Try.prog 21 #[.pointer (some ⟨p, 0, none⟩)] w fun e w' => e = .returned (.int .i64 (D.length : Int)) ∧ w = w' := by
  obtain ⟨mv, S, lv, T, h1, h2, h3, rfl⟩ := h
  exact lenWp w p mv _ h1.c1 (mapv_len h1.map h2)
set_option maxHeartbeats 1000000 in
theorem nowW_any {w : World} {p : Nat} {now : Int} {D : List (Int × Int)} {F : Nat → Prop} (h : WhW w p now D F) :
    Calls Try.prog 22 #[.pointer (some ⟨p, 0, none⟩)] w fun e w' => e = .returned (.int .i64 now) ∧ w = w' := by
  obtain ⟨mv, S, lv, T, h1, h2, h3, rfl⟩ := h
  have c0 := h1.c0
  clear h1 h2 h3
  go_enter Try.func22, Try.ntmps22
  go_wp2
  go_ret
  exact ⟨rfl, rfl⟩
theorem ix_pl0 (w : World) (p : Nat) : (Instr.index 70 (.agg #[plS p, plL p]) (.int .i64 0)).run Try.prog w = .ok (plS p) w := by kernel_rfl
theorem ix_pl1 (w : World) (p : Nat) : (Instr.index 70 (.agg #[plS p, plL p]) (.int .i64 1)).run Try.prog w = .ok (plL p) w := by kernel_rfl
attribute [local go_sem] ix_pl0 ix_pl1
set_option maxHeartbeats 4000000 in
theorem nextW_any {w : World} {p : Nat} {now : Int} {D : List (Int × Int)} {F : Nat → Prop} (h : WhW w p now D F) :
    Calls Try.prog 20 #[.pointer (some ⟨p, 0, none⟩)] w fun e w' => e = retF D.head? ∧ Below w.heap.size w w' := by
  obtain ⟨mv, S, lv, T, h1, h2, h3, rfl⟩ := h
  have hpl : p < w.heap.size := h1.lt p (.inl rfl)
  obtain ⟨w1, hw1, r1, z1, b1⟩ := alloc_nm w (.cells #[.int .i64 0, .int .i64 0] 43)
  have HB := hide b1
  have HR := hide r1
  have HZ := hide z1
  have KP := hide (fun W (hW : Below w.heap.size w W) => places_any W p (Nat.lt_of_lt_of_le hpl hW.size))
  have KS := hide (fun W (hW : Below w.heap.size w W) => firstS_any W p now mv S lv (soonL D (now + 64)) now (h1.bel hW).blk h1.sl (h1.bel hW).rows.soon h3.clock)
  have KL := hide (fun W (hW : Below w.heap.size w W) => firstL_any W p now mv S lv (lateL D (now + 64)) now (h1.bel hW).blk h1.sl (h1.bel hW).rows.late)
  have HC := hide (fun W (hW : Below w.heap.size w W) => (h1.bel hW).c0)
  obtain ⟨X0, hX0⟩ : ∃ X, X = firstF (soonL D (now + 64)) now 0 64 := ⟨_, rfl⟩
  obtain ⟨X1, hX1⟩ : ∃ X, X = (lateL D (now + 64)).head? := ⟨_, rfl⟩
  have HE := hide (first_all h3)
  rw [← hX0] at KS HE
  rw [← hX1] at KL HE
  clear hX0 hX1
  clear h1 h2 h3 b1 r1 z1 hpl
  go_enter Try.func20, Try.ntmps20
  go_wp2_with (first | (go_at_call 27; (with_reducible refine (KP.out _ HB.out).mono ?_); rintro e w2 ⟨rfl, hb2⟩; have HB2 := hide hb2; clear hb2) | fail)
  have HX0 : Hid (Below w.heap.size w w2) := hide (HB.out.trans (HB2.out.mono (by have := HZ.out; omega)))
  have HR2 : Hid (w2.heap[w.heap.size]? = some (.cells #[.int .i64 0, .int .i64 0] 43 (0, 0))) := hide ((HB2.out.block _ (by have := HZ.out; omega)).trans HR.out)
  clear KP HB2 HZ hw1
  have hao : allOne #[.int .i64 0, .int .i64 0] = true := by simp [allOne, Value.oneCell']
  have hx0 : (#[Value.int .i64 0, Value.int .i64 0] : Array Value).extract 0 2 = #[Value.int .i64 0, Value.int .i64 0] := rfl
  go_loopw [13] (fun i wr => ∃ k : Nat, k ≤ 2 ∧ i = .int .i64 (k : Int) ∧ Hid (Below w.heap.size w wr) ∧ Hid (wr.heap[w.heap.size]? = some (.cells #[.int .i64 0, .int .i64 0] 43 (0, 0))) ∧ Hid (1 ≤ k → X0 = none) ∧ Hid (2 ≤ k → X1 = none)) (fun i _ => 2 - (Go.RowKit.intOf i).toNat)
  case atStart => exact ⟨0, Nat.zero_le _, rfl, HX0, HR2, hide (fun h => absurd h (by omega)), hide (fun h => absurd h (by omega))⟩
  case round =>
    obtain ⟨k, hk, rfl, HBr, HRr, H0, H1⟩ := hrel
    have HNx : Hid (∀ w3, Below wr.heap.size wr w3 → Below w.heap.size w w3 ∧ w3.heap[w.heap.size]? = some (.cells #[.int .i64 0, .int .i64 0] 43 (0, 0)) ∧ w.heap.size < w3.heap.size) := hide fun w3 hb3 => by
      have hlt : w.heap.size < wr.heap.size := (Array.getElem?_eq_some_iff.1 HRr.out).1
      exact ⟨HBr.out.trans (hb3.mono HBr.out.size), (hb3.block _ hlt).trans HRr.out, Nat.lt_of_lt_of_le hlt hb3.size⟩
    have c0 := HC.out wr HBr.out
    match k, hk with
    | 0, _ =>
      have KSr := hide (KS.out wr HBr.out)
      cases X0 with
      | none =>
        go_wp2_with (first | (go_at_call 31; (with_reducible refine KSr.out.mono ?_); rintro e w3 ⟨rfl, hb3⟩; have HB3 := hide (HNx.out w3 hb3); have hl3 : LtN w.heap.size w3.heap.size := (HNx.out w3 hb3).2.2; have hr3 := (HNx.out w3 hb3).2.1; clear hb3; dsimp only [retF]) | fail)
        go_roundw
        case rel => exact ⟨1, by omega, by go_num, hide (HB3.out.1.alloc HB3.out.1.size _), hide ((heap_alloc_old _ _ HB3.out.2.2).trans HB3.out.2.1), hide (fun _ => trivial), hide (fun h => absurd h (by omega))⟩
        case measure => simp [Go.RowKit.intOf]
      | some q =>
        obtain ⟨q1, q2⟩ := q
        have haq : allOne #[.int .i64 q1, .int .i64 q2] = true := by simp [allOne, Value.oneCell']
        have hxq : (#[Value.int .i64 q1, Value.int .i64 q2] : Array Value).extract 0 2 = #[Value.int .i64 q1, Value.int .i64 q2] := rfl
        go_wp2_with (first | (go_at_call 31; (with_reducible refine KSr.out.mono ?_); rintro e w3 ⟨rfl, hb3⟩; have HB3 := hide (HNx.out w3 hb3); have hl3 : LtN w.heap.size w3.heap.size := (HNx.out w3 hb3).2.2; have hr3 := (HNx.out w3 hb3).2.1; clear hb3; dsimp only [retF]) | fail)
        refine bodyPost_ret (results_cell_tmp (fn := Try.f20) Try.results20 _ _ w.heap.size 43 #[.int .i64 q1, .int .i64 q2] (0, 0) _ rfl (setRow_heap _ _ _ _ _ _ ((heap_alloc_old _ _ hl3).trans hr3)) Try.underlying43 rfl info_dueS) rfl ?_
        refine ⟨by rw [← HE.out, Option.some_or]; rfl, below_setRow (HB3.out.1.alloc HB3.out.1.size _) (Nat.le_refl _) _⟩
    | 1, _ =>
      have KLr := hide (KL.out wr HBr.out)
      have HX := hide (H0.out (by omega))
      cases X1 with
      | none =>
        go_wp2_with (first | (go_at_call 31; (with_reducible refine KLr.out.mono ?_); rintro e w3 ⟨rfl, hb3⟩; have HB3 := hide (HNx.out w3 hb3); have hl3 : LtN w.heap.size w3.heap.size := (HNx.out w3 hb3).2.2; have hr3 := (HNx.out w3 hb3).2.1; clear hb3; dsimp only [retF]) | fail)
        go_roundw
        case rel => exact ⟨2, by omega, by go_num, hide (HB3.out.1.alloc HB3.out.1.size _), hide ((heap_alloc_old _ _ HB3.out.2.2).trans HB3.out.2.1), hide (fun _ => HX.out), hide (fun _ => trivial)⟩
        case measure => simp [Go.RowKit.intOf]
      | some q =>
        obtain ⟨q1, q2⟩ := q
        have haq : allOne #[.int .i64 q1, .int .i64 q2] = true := by simp [allOne, Value.oneCell']
        have hxq : (#[Value.int .i64 q1, Value.int .i64 q2] : Array Value).extract 0 2 = #[Value.int .i64 q1, Value.int .i64 q2] := rfl
        go_wp2_with (first | (go_at_call 31; (with_reducible refine KLr.out.mono ?_); rintro e w3 ⟨rfl, hb3⟩; have HB3 := hide (HNx.out w3 hb3); have hl3 : LtN w.heap.size w3.heap.size := (HNx.out w3 hb3).2.2; have hr3 := (HNx.out w3 hb3).2.1; clear hb3; dsimp only [retF]) | fail)
        refine bodyPost_ret (results_cell_tmp (fn := Try.f20) Try.results20 _ _ w.heap.size 43 #[.int .i64 q1, .int .i64 q2] (0, 0) _ rfl (setRow_heap _ _ _ _ _ _ ((heap_alloc_old _ _ hl3).trans hr3)) Try.underlying43 rfl info_dueS) rfl ?_
        refine ⟨by rw [← HE.out, HX.out, Option.none_or]; rfl, below_setRow (HB3.out.1.alloc HB3.out.1.size _) (Nat.le_refl _) _⟩
    | 2, _ =>
      have HX := hide (H0.out (by omega))
      have HY := hide (H1.out (by omega))
      have hr3 := HRr.out
      go_wp2
      refine bodyPost_ret (results_cell_tmp (fn := Try.f20) Try.results20 _ _ w.heap.size 43 #[.int .i64 0, .int .i64 0] (0, 0) _ rfl (setRow_heap _ _ _ _ _ _ HRr.out) Try.underlying43 rfl info_dueS) rfl ?_
      refine ⟨by rw [← HE.out, HX.out, HY.out]; rfl, below_setRow HBr.out (Nat.le_refl _) _⟩
/-! one that is not there -/
theorem atN_any (w : World) (id : Int) : Calls Try.prog 23 #[.pointer none, .int .i64 id] w fun e w' => e = .returned (.int .i64 0) ∧ w = w' := by
  go_enter Try.func23, Try.ntmps23
  go_wp2
  go_ret
  exact ⟨rfl, rfl⟩
theorem lenWN_any (w : World) : Calls Try.prog 21 #[.pointer none] w fun e w' => e = .returned (.int .i64 0) ∧ w = w' := by
  go_enter Try.func21, Try.ntmps21
  go_wp2
  go_ret
  exact ⟨rfl, rfl⟩
theorem nowN_any (w : World) : Calls Try.prog 22 #[.pointer none] w fun e w' => e = .returned (.int .i64 0) ∧ w = w' := by
  go_enter Try.func22, Try.ntmps22
  go_wp2
  go_ret
  exact ⟨rfl, rfl⟩
theorem setN_any (w : World) (id at_ : Int) : Calls Try.prog 12 #[.pointer none, .int .i64 id, .int .i64 at_] w fun e w' => e = .returned (.int .i64 2) ∧ w = w' := by
  go_enter Try.func12, Try.ntmps12
  go_wp2
  go_ret
  exact ⟨rfl, rfl⟩
theorem dropN_any (w : World) (id : Int) : Calls Try.prog 14 #[.pointer none, .int .i64 id] w fun e w' => e = .returned (.bool false) ∧ w = w' := by
  have KA := hide (atN_any w id)
  go_enter Try.func14, Try.ntmps14
  go_wp2_with (first | (go_at_call 23; (with_reducible refine KA.out.mono ?_); rintro e w2 ⟨rfl, rfl⟩) | fail)
  go_ret
  exact ⟨rfl, rfl⟩
theorem advN_any (w : World) (to : Int) : Calls Try.prog 16 #[.pointer none, .int .i64 to] w fun e w' => e = .returned (.tuple #[.slice none 0 0, .int .i64 2]) ∧ w = w' := by
  go_enter Try.func16, Try.ntmps16
  go_wp2
  go_ret2
  exact ⟨rfl, rfl⟩
set_option maxHeartbeats 1000000 in
theorem nextN_any (w : World) : Calls Try.prog 20 #[.pointer none] w fun e w' => e = retF none ∧ Below w.heap.size w w' := by
  obtain ⟨w1, hw1, r1, z1, b1⟩ := alloc_nm w (.cells #[.int .i64 0, .int .i64 0] 43)
  have HB := hide b1
  have HR := hide r1
  have hao : allOne #[.int .i64 0, .int .i64 0] = true := by simp [allOne, Value.oneCell']
  clear b1 z1
  go_enter Try.func20, Try.ntmps20
  go_wp2
  refine bodyPost_ret (results_cell_tmp (fn := Try.f20) Try.results20 _ _ w.heap.size 43 #[.int .i64 0, .int .i64 0] (0, 0) _ rfl (setRow_heap _ _ _ _ _ _ HR.out) Try.underlying43 rfl info_dueS) rfl ?_
  exact ⟨rfl, below_setRow HB.out (Nat.le_refl _) _⟩
end Go.Proofs.Ytjdedlmphghpnaa
