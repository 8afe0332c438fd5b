/-
  The walks of the order of tuples.
-/
import Derived.Test.YtbkipfmnbfjkcaaTup
namespace Go.Proofs.Ytbkipfmnbfjkcaa
open Go.RowKit
attribute [local go_sem ↓] exec_span exec_put exec_build heap_alloc_new heap_old
attribute [local go_sem] spanQ_ptr spanC_some heap_of_drew heap_of_drewN rs_arr rs_ad rs_tup putAt_ptr putOk_ptr oldOk_some built_none World.setRow_alloc_new
set_option maxRecDepth 100000
set_option linter.unusedVariables false
set_option linter.unusedSimpArgs false

/-- which of two stands ahead. -/
def lessT (t u : Tup) : Bool :=
  if t.p = u.p then
    if t.sv = u.sv ∧ t.sb = u.sb then
      if t.dv = u.dv ∧ t.db = u.db then
        if t.s = u.s then decide (t.d < u.d) else decide (t.s < u.s)
      else lessA t.dv t.db u.dv u.db
    else lessA t.sv t.sb u.sv u.sb
  else decide (t.p < u.p)

set_option maxHeartbeats 4000000 in
theorem lesstuple_any (w : World) (X Y : Array Value) (t u : Tup) (h : TuV X t) (h' : TuV Y u) :
    Calls Try.prog 67 #[.agg X, .agg Y] w fun e w' => e = .returned (.bool (lessT t u)) ∧ Below w.heap.size w w' := by
  go_enter Try.func67, Try.ntmps67
  have hxs := h.size
  have hys := h'.size
  obtain ⟨S, hS⟩ : ∃ S, S = (adL t.sv t.sb).toArray := ⟨_, rfl⟩
  obtain ⟨D, hD⟩ : ∃ D, D = (adL t.dv t.db).toArray := ⟨_, rfl⟩
  obtain ⟨S', hS'⟩ : ∃ S, S = (adL u.sv u.sb).toArray := ⟨_, rfl⟩
  obtain ⟨D', hD'⟩ : ∃ D, D = (adL u.dv u.db).toArray := ⟨_, rfl⟩
  have hsrc := h.src
  have hdst := h.dst
  have hsrc' := h'.src
  have hdst' := h'.dst
  rw [← hS] at hsrc
  rw [← hD] at hdst
  rw [← hS'] at hsrc'
  rw [← hD'] at hdst'
  have aS : AdV S t.sv t.sb := by rw [hS]; exact AdV.mk' h.ls
  have aD : AdV D t.dv t.db := by rw [hD]; exact AdV.mk' h.ld
  have aS' : AdV S' u.sv u.sb := by rw [hS']; exact AdV.mk' h'.ls
  have aD' : AdV D' u.dv u.db := by rw [hD']; exact AdV.mk' h'.ld
  obtain ⟨W, hW, h1, h2, hz, hb⟩ := two_blocks w (.cells X 63) (.cells Y 63)
  have hB := hide hb
  have hlt : Hid (W.heap.size = w.heap.size + 2) := hide hz
  have H1 := hide h1
  have H2 := hide h2
  have HC := hide (fun (W : World) (hg : W.heap[w.heap.size]? = some (.cells X 63 (0, 0))) => h.cells hg)
  have HD := hide (fun (W : World) (hg : W.heap[w.heap.size + 1]? = some (.cells Y 63 (0, 0))) => h'.cells hg)
  have c1 := hide (fun W => adsame_any W S S' t.sv u.sv t.sb u.sb aS aS')
  have c2 := hide (fun W => adsame_any W D D' t.dv u.dv t.db u.db aD aD')
  have l1 := hide (fun W => less_any W S S' t.sv u.sv t.sb u.sb aS aS')
  have l2 := hide (fun W => less_any W D D' t.dv u.dv t.db u.db aD aD')
  obtain ⟨R1, hR1⟩ : ∃ R, R = (t.sv == u.sv && t.sb == u.sb) := ⟨_, rfl⟩
  obtain ⟨R2, hR2⟩ : ∃ R, R = (t.dv == u.dv && t.db == u.db) := ⟨_, rfl⟩
  obtain ⟨L1, hL1⟩ : ∃ R, R = lessA t.sv t.sb u.sv u.sb := ⟨_, rfl⟩
  obtain ⟨L2, hL2⟩ : ∃ R, R = lessA t.dv t.db u.dv u.db := ⟨_, rfl⟩
  rw [← hR1] at c1
  rw [← hR2] at c2
  rw [← hL1] at l1
  rw [← hL2] at l2
  have hT : Hid (lessT t u = if t.p = u.p then if R1 = true then if R2 = true then if t.s = u.s then decide (t.d < u.d) else decide (t.s < u.s) else L2 else L1 else decide (t.p < u.p)) := hide (by
    rw [hR1, hR2, hL1, hL2]
    simp only [Bool.and_eq_true, beq_iff_eq]
    rfl)
  obtain ⟨k1, k2, k3, k4, k5⟩ := h.cells h1
  obtain ⟨m1, m2, m3, m4, m5⟩ := h'.cells h2
  clear hz hb hS hD hS' hD' aS aD aS' aD' hR1 hR2 hL1 hL2 k1 k2 m1 m2
  obtain ⟨pp, hpp⟩ : ∃ b, b = t.p := ⟨_, rfl⟩
  obtain ⟨ps, hps⟩ : ∃ b, b = t.s := ⟨_, rfl⟩
  obtain ⟨pd, hpd⟩ : ∃ b, b = t.d := ⟨_, rfl⟩
  obtain ⟨qp, hqp⟩ : ∃ b, b = u.p := ⟨_, rfl⟩
  obtain ⟨qs, hqs⟩ : ∃ b, b = u.s := ⟨_, rfl⟩
  obtain ⟨qd, hqd⟩ : ∃ b, b = u.d := ⟨_, rfl⟩
  rw [← hpp, ← hps, ← hpd] at HC
  rw [← hqp, ← hqs, ← hqd] at HD
  rw [← hpp, ← hqp, ← hps, ← hqs, ← hpd, ← hqd] at hT
  rw [← hpp] at k3
  rw [← hps] at k4
  rw [← hpd] at k5
  rw [← hqp] at m3
  rw [← hqs] at m4
  rw [← hqd] at m5
  clear hpp hps hpd hqp hqs hqd
  by_cases ep : pp = qp
  · subst ep
    rw [if_pos rfl] at hT
    cases R1
    · rw [if_neg (by decide)] at hT
      go_wp2_with (first
        | (go_at_call 80; (with_reducible refine (c1.out _).mono ?_); rintro e w2 ⟨rfl, hb2⟩; have HB2 : Hid (Below W.heap.size W w2) := hide hb2; have h12 := row_kept hb2 (by have := hlt.out; omega) H1.out; have g12 := row_kept hb2 (by have := hlt.out; omega) H2.out; obtain ⟨j1, j2, j3, j4, j5⟩ := HC.out w2 h12; obtain ⟨n1, n2, n3, n4, n5⟩ := HD.out w2 g12; clear j1 j2 n1 n2)
        | (go_at_call 81; (with_reducible refine (l1.out _).mono ?_); rintro e w3 ⟨rfl, hb3⟩; have HB3 : Hid (Below W.heap.size W w3) := hide (HB2.out.trans (hb3.mono HB2.out.size))))
      go_ret
      exact ⟨by rw [hT.out]; rfl, hB.out.trans (HB3.out.mono (by have := hlt.out; omega))⟩
    · rw [if_pos rfl] at hT
      cases R2
      · rw [if_neg (by decide)] at hT
        go_wp2_with (first
          | (go_at_call 80; (with_reducible refine (c1.out _).mono ?_); rintro e w2 ⟨rfl, hb2⟩; have HB2 : Hid (Below W.heap.size W w2) := hide hb2; have h12 := row_kept hb2 (by have := hlt.out; omega) H1.out; have g12 := row_kept hb2 (by have := hlt.out; omega) H2.out; obtain ⟨j1, j2, j3, j4, j5⟩ := HC.out w2 h12; obtain ⟨n1, n2, n3, n4, n5⟩ := HD.out w2 g12; clear j1 j2 n1 n2)
          | (go_at_call 80; (with_reducible refine (c2.out _).mono ?_); rintro e w3 ⟨rfl, hb3⟩; have HB3 : Hid (Below W.heap.size W w3) := hide (HB2.out.trans (hb3.mono HB2.out.size)); have h13 := row_kept hb3 (by have := hlt.out; have := HB2.out.size; omega) h12; have g13 := row_kept hb3 (by have := hlt.out; have := HB2.out.size; omega) g12; obtain ⟨i1, i2, i3, i4, i5⟩ := HC.out w3 h13; obtain ⟨o1, o2, o3, o4, o5⟩ := HD.out w3 g13; clear i1 i2 o1 o2)
          | (go_at_call 81; (with_reducible refine (l2.out _).mono ?_); rintro e w4 ⟨rfl, hb4⟩; have HB4 : Hid (Below W.heap.size W w4) := hide (HB3.out.trans (hb4.mono HB3.out.size))))
        go_ret
        exact ⟨by rw [hT.out]; rfl, hB.out.trans (HB4.out.mono (by have := hlt.out; omega))⟩
      · rw [if_pos rfl] at hT
        by_cases es : ps = qs
        · subst es
          rw [if_pos rfl] at hT
          go_wp2_with (first
            | (go_at_call 80; (with_reducible refine (c1.out _).mono ?_); rintro e w2 ⟨rfl, hb2⟩; have HB2 : Hid (Below W.heap.size W w2) := hide hb2; have h12 := row_kept hb2 (by have := hlt.out; omega) H1.out; have g12 := row_kept hb2 (by have := hlt.out; omega) H2.out; obtain ⟨j1, j2, j3, j4, j5⟩ := HC.out w2 h12; obtain ⟨n1, n2, n3, n4, n5⟩ := HD.out w2 g12; clear j1 j2 n1 n2)
            | (go_at_call 80; (with_reducible refine (c2.out _).mono ?_); rintro e w3 ⟨rfl, hb3⟩; have HB3 : Hid (Below W.heap.size W w3) := hide (HB2.out.trans (hb3.mono HB2.out.size)); have h13 := row_kept hb3 (by have := hlt.out; have := HB2.out.size; omega) h12; have g13 := row_kept hb3 (by have := hlt.out; have := HB2.out.size; omega) g12; obtain ⟨i1, i2, i3, i4, i5⟩ := HC.out w3 h13; obtain ⟨o1, o2, o3, o4, o5⟩ := HD.out w3 g13; clear i1 i2 o1 o2))
          go_ret
          exact ⟨by rw [hT.out]; rfl, hB.out.trans (HB3.out.mono (by have := hlt.out; omega))⟩
        · rw [if_neg es] at hT
          go_wp2_with (first
            | (go_at_call 80; (with_reducible refine (c1.out _).mono ?_); rintro e w2 ⟨rfl, hb2⟩; have HB2 : Hid (Below W.heap.size W w2) := hide hb2; have h12 := row_kept hb2 (by have := hlt.out; omega) H1.out; have g12 := row_kept hb2 (by have := hlt.out; omega) H2.out; obtain ⟨j1, j2, j3, j4, j5⟩ := HC.out w2 h12; obtain ⟨n1, n2, n3, n4, n5⟩ := HD.out w2 g12; clear j1 j2 n1 n2)
            | (go_at_call 80; (with_reducible refine (c2.out _).mono ?_); rintro e w3 ⟨rfl, hb3⟩; have HB3 : Hid (Below W.heap.size W w3) := hide (HB2.out.trans (hb3.mono HB2.out.size)); have h13 := row_kept hb3 (by have := hlt.out; have := HB2.out.size; omega) h12; have g13 := row_kept hb3 (by have := hlt.out; have := HB2.out.size; omega) g12; obtain ⟨i1, i2, i3, i4, i5⟩ := HC.out w3 h13; obtain ⟨o1, o2, o3, o4, o5⟩ := HD.out w3 g13; clear i1 i2 o1 o2))
          go_ret
          exact ⟨by rw [hT.out]; rfl, hB.out.trans (HB3.out.mono (by have := hlt.out; omega))⟩
  · rw [if_neg ep] at hT
    go_wp2
    go_ret
    exact ⟨by rw [hT.out]; rfl, hB.out⟩
end Go.Proofs.Ytbkipfmnbfjkcaa
