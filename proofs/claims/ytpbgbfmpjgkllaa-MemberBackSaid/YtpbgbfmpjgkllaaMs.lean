/-
  All that are not given up: Live.
-/
import Derived.Test.YtpbgbfmpjgkllaaMr
namespace Go.Proofs.Ytpbgbfmpjgkllaa
open Go.RowKit Go.Shelf
set_option maxRecDepth 100000
set_option linter.unusedVariables false
set_option linter.unusedSimpArgs false
attribute [local go_sem] Oper.semAt_some
attribute [local go_sem ↓] exec_span exec_put exec_build heap_alloc_new heap_old
attribute [local go_sem] spanQ_ptr spanC_some heap_of_drew heap_of_drewN putAt_ptr putOk_ptr oldOk_some World.setRow_alloc_new rs_inf rs_view

theorem info_intM : (Try.prog.info? 3).map (fun i => (i.zero, i.size, i.bytes)) = some (some (.int .i64 0), 1, 8) := by kernel_rfl
/-- of some that came, those that are not given up. -/
def aliveP (pre : List (Nat × (Int × Int))) : List Nat := (pre.filter fun x => x.2.1 != 2).map fun x => x.1
def liveL (l : List (Int × Int)) : List Nat := aliveP (uptoV l l.length)
def natV (k : Nat) : Value := .int .i64 (k : Int)
theorem aliveP_hit (pre : List (Nat × (Int × Int))) {x : Nat × (Int × Int)} (h : (x.2.1 != 2) = true) : aliveP (pre ++ [x]) = aliveP pre ++ [x.1] := by
  unfold aliveP
  rw [List.filter_append, List.filter_cons_of_pos (by exact h)]
  simp
theorem aliveP_miss (pre : List (Nat × (Int × Int))) {x : Nat × (Int × Int)} (h : (x.2.1 != 2) = false) : aliveP (pre ++ [x]) = aliveP pre := by
  unfold aliveP
  rw [List.filter_append, List.filter_cons_of_neg (by rw [h]; simp)]
  simp
theorem aliveP_le (pre : List (Nat × (Int × Int))) : (aliveP pre).length ≤ pre.length := by
  unfold aliveP; rw [List.length_map]; exact List.length_filter_le _ _
theorem cells_kept {W W' : World} {B : Nat} {cs : Array Value} {t : TypeId} {row : Option Nat} (h : W.heap[B]? = some (.cells cs t (0, 0))) (hg : W.grownBy W' row) (hr : ∀ r, row = some r → ∃ o : Obj, W.heap[r]? = some o ∧ o.isCells = false) : W'.heap[B]? = some (.cells cs t (0, 0)) := by
  refine (hg.block B (Array.getElem?_eq_some_iff.1 h).1 (fun e => ?_)).trans h
  obtain ⟨o, ho, hc⟩ := hr B e.symm
  rw [h] at ho; cases ho; cases hc
set_option maxHeartbeats 4000000 in
theorem liveV_in (F : Fence) (n : Nat) (hF : F.fn 30) (hF1 : F.fn 46) (hF2 : F.fn 58) (hro : F.round = none) (hn : 4 ≤ n) (w : World) (g b : Nat) (me : Int) (l : List (Int × Int)) (hv : ViewS w g b me l) (hl : l.length ≤ 16) :
    CallsIn F n Try.prog 30 #[.pointer (some ⟨g, 0, none⟩)] w fun e W' => ∃ v, e = .returned v ∧ W'.ownsRow w.heap.size 3 1 v (liveL l).length ((liveL l).map natV) ∧ Below w.heap.size w W' := by
  have h1 : 1 ≤ n := by omega
  obtain ⟨i0, hi, hz0, hz1, hz2⟩ := info_parts info_intM
  refine callsIn_of_wp_marks Try.func30 rfl hF ?_ hro
  simp only [Try.ntmps30, List.size_toArray, List.length_cons, List.length_nil, Nat.reduceAdd, Nat.reduceSub, Array.replicate_succ, Array.replicate_zero, List.push_toArray, List.append_toArray, List.nil_append, List.cons_append]
  gi_wp2_with (gi_at_call 46; refine (all_in F (n - 1) hF1 hro _ _).mono ?_; rintro e w' ⟨rfl, rfl⟩)
  have bO := (Boxed.new w 56 (.slice none 0 0)).alloc (.cells #[.pointer (some ⟨g, 0, none⟩)] 33)
  have bN := Boxed.new (w.alloc (.cells #[.slice none 0 0] 56)) 33 (.pointer (some ⟨g, 0, none⟩))
  rw [World.size_alloc] at bN
  have hB0 : Below w.heap.size w ((w.alloc (.cells #[.slice none 0 0] 56)).alloc (.cells #[.pointer (some ⟨g, 0, none⟩)] 33)) := ((Below.refl _ w).alloc (Nat.le_refl _) _).alloc (by simp) _
  have hsz : ((w.alloc (.cells #[.slice none 0 0] 56)).alloc (.cells #[.pointer (some ⟨g, 0, none⟩)] 33)).heap.size = w.heap.size + 2 := by simp
  obtain ⟨W0, hW0⟩ : ∃ W0, (w.alloc (.cells #[.slice none 0 0] 56)).alloc (.cells #[.pointer (some ⟨g, 0, none⟩)] 33) = W0 := ⟨_, rfl⟩
  rw [hW0] at bO bN hB0 hsz ⊢
  clear hW0
  have hg := hv.lt
  have hb := hv.map.lt
  refine wpIn_rangeFunc_ownH hro h1 (gf := 58) (lb := #[.pointer (some ⟨w.heap.size + 1, 0, none⟩)]) rfl hF2 (enters_of Try.func58 (by kernel_rfl) rfl)
    (allV_stops F (n - 1) hF2 hro (by omega) (w.heap.size + 1) w.heap.size g b me l W0 (by omega) (by omega) bN.cell (hv.below hB0 (Nat.le_refl _)) hg hb (by omega)) keepB_t (keepB_b (by omega) (by omega)) (Below.refl _ _) (fun _ => rfl)
    (fun pre W => (∃ v, Boxed W w.heap.size 56 v ∧ W.ownsRow w.heap.size 3 1 v (aliveP pre).length ((aliveP pre).map natV) ∧ v.ownBlock ≠ some (w.heap.size + 1)) ∧ (Below w.heap.size w W ∧ Boxed W (w.heap.size + 1) 33 (.pointer (some ⟨g, 0, none⟩))))
    (fun _ _ _ => False)
    (OwnFrom.and (Own.from (holdsRow_own w.heap.size w.heap.size 56 3 1 (fun pre => (aliveP pre).length) (fun pre => (aliveP pre).map natV) (fun _ v => v.ownBlock ≠ some (w.heap.size + 1))) _) (OwnFrom.and (ownFrom_below (Nat.le_refl _) (by omega)) (Own.from (boxed_own _ _ _) _)))
    (fun _ _ _ _ _ hs _ _ => hs)
    ⟨⟨_, bO, World.ownsRow_nil _ _ _ _, (by simp [Value.ownBlock])⟩, hB0, bN⟩
    (fun x a' W => ∃ Bx, w.heap.size + 1 < Bx ∧ W.heap[Bx]? = some (.cells #[.int .i64 x.2.1, .int .i64 x.2.2] 24 (0, 0)) ∧ a' = { tmps := #[.pointer (some ⟨g, 0, none⟩), undef, .slice none 0 0, .pointer (some ⟨w.heap.size, 0, none⟩), .int .i64 (x.1 : Int), .pointer (some ⟨Bx, 0, none⟩), .pointer (some ⟨g, 0, none⟩), .func (.func 58) #[] #[.pointer (some ⟨w.heap.size + 1, 0, none⟩)], .int .i64 (x.1 : Int), .agg #[.int .i64 x.2.1, .int .i64 x.2.2], undef, undef, undef, undef, undef, undef, undef, undef], defers := [] })
    (fun x a' _ X Y row hs hg hr => by obtain ⟨Bx, h1, h2, h3⟩ := hs; exact ⟨Bx, h1, cells_kept h2 hg (fun r e => (hr r e).2), h3⟩)
    ?assign ?body ?done ?stop
  case assign =>
    rintro lp pre x W K ⟨⟨v, bO1, hrow, hvn⟩, hB1, bN1⟩ hK
    have hao : allOne #[Value.int .i64 x.2.1, Value.int .i64 x.2.2] = true := by simp [allOne, Value.oneCell']
    gi_wp2
    exact hK _ _ ((KeepsOthers.alloc _ _).from _) ⟨(Below.refl _ W).alloc hB1.size _, heap_alloc_old _ _ bN1.lt⟩ ⟨⟨v, bO1.alloc _, hrow.alloc _, hvn⟩, hB1.alloc hB1.size _, bN1.alloc _⟩ ⟨W.heap.size, bN1.lt, heap_alloc_new _ _, rfl⟩
  case body =>
    rintro lp pre x a' W hlp ⟨r, hr⟩ ⟨⟨v, bO1, hrow, hvn⟩, hB1, bN1⟩ ⟨Bx, hBx, rX, rfl⟩ hlt
    have c0 : W.cell? ⟨Bx, 0, none⟩ = some (.int .i64 x.2.1) := (cell_of_row W Bx 0 _ _ (0, 0) rX).trans rfl
    have hc := bO1.cell
    have hpl := aliveP_le pre
    have hbs := hB1.size
    obtain ⟨q, hq⟩ : ∃ q, q = (x.2.1 != 2) := ⟨_, rfl⟩
    have tq := hq.symm
    have HQ := hide hq
    clear hq
    cases q
    · have ha := aliveP_miss pre HQ.out.symm
      gi_wp2
      exact ⟨KeepsFrom.refl _ _, ⟨Below.refl _ _, rfl⟩, ⟨v, bO1, by rw [ha]; exact hrow, hvn⟩, hB1, bN1⟩
    · have ha := aliveP_hit pre HQ.out.symm
      gi_wp2_with (gi_at_builtin; refine wpListIn_append_own _ rfl _ _ 56 rfl w.heap.size 3 i0 (.int .i64 0) 1 8 Try.underlying56 hi hz0 hz1 hz2 rfl (by decide) _ _ _ rfl (hrow.alloc _) ⟨W.heap.size, 0, none⟩ 1 1 [.int .i64 (x.1 : Int)] rfl rfl (cell_one_new _ _ _) (by simp [Value.oneCell']) (by unfold maxLen; omega) (by omega) (by simp; omega) ?_; intro v' w1 hown' hgrow hat; obtain ⟨g', cap', rfl⟩ := ownsRow_succ hown'; obtain ⟨hv1, hv2, hr2, hk2, hb2⟩ := bO1.appended (by decide) hrow hB1.size (Nat.le_refl _) hown' hgrow; have hc1 := hv1.cell; have hf1 := hv1.frozen)
      have hk1 := (hgrow.block (w.heap.size + 1) (by have := bN1.lt; simp; omega) (fun e => hvn e.symm)).trans (heap_alloc_old W _ bN1.lt)
      have hne : g' ≠ w.heap.size + 1 := fun e => by
        rcases hown'.2 with ⟨e0, _⟩ | ⟨gg, cap, cur, ev, _, hgg, _⟩
        · cases e0
        · cases ev
          have h9 := hk1.trans bN1
          rw [← e, hgg] at h9
          cases h9
      have hkb := (Below.heap_setCell w1 ⟨w.heap.size, 0, none⟩ (.slice (some ⟨g', 0, none⟩) ((aliveP pre).length + 1) cap') (w.heap.size + 1) (by simp)).trans hk1
      exact ⟨hk2.from _, ⟨hb2, hkb⟩, ⟨_, hv2, by rw [ha]; simpa [natV] using hr2, by simp [Value.ownBlock]; omega⟩, hB1.trans hb2, hkb.trans bN1⟩
  case done =>
    rintro D ys W hD rfl ⟨⟨v, bO1, hrow, -⟩, hB1, bN1⟩ hK
    have hc := bO1.cell
    gi_wp2
    refine ⟨by simp, .inl ⟨_, _, rfl, run_takeDeferred hK, ?_⟩⟩
    exact ⟨_, results_tmp rfl _ _ _, v, rfl, ownsRow_putObj hrow _ hK rfl, hB1.trans (belowK_b (w := W0) (by omega) W D _ _ (by omega) hK rfl rfl)⟩
  case stop =>
    rintro D c pre W _ _ h _
    exact h.elim
theorem liveV_any (w : World) (g b : Nat) (me : Int) (l : List (Int × Int)) (hv : ViewS w g b me l) (hl : l.length ≤ 16) :
    Calls Try.prog 30 #[.pointer (some ⟨g, 0, none⟩)] w fun e W' => ∃ A c T, T = (liveL l).length ∧ e = .returned (.slice A T c) ∧ T ≤ c ∧ W'.ownsRow w.heap.size 3 1 (.slice A T c) T ((liveL l).map natV) ∧ Below w.heap.size w W' :=
  ((callsIn_wide (n := 4)).1 (liveV_in Fence.wide 4 trivial trivial trivial rfl (by decide) w g b me l hv hl)).mono fun e W' ⟨v, he, hr, hb⟩ => by
    rcases hr.2 with ⟨rfl, h0⟩ | ⟨gg, cap, cur, rfl, _, _, hn, _⟩
    · exact ⟨none, 0, (liveL l).length, rfl, by rw [he, h0], by omega, by rw [h0] at hr ⊢; exact hr, hb⟩
    · exact ⟨_, cap, _, rfl, he, hn, hr, hb⟩
end Go.Proofs.Ytpbgbfmpjgkllaa
