/-
  The walk of can it be, the document own.
-/
import Derived.Test.YtcfckhdohcaffaaTup
namespace Go.Proofs.Ytcfckhdohcaffaa
open Go.RowKit
attribute [local go_sem ↓] exec_span exec_put exec_build heap_alloc_new heap_old
attribute [local go_sem] spanQ_ptr spanC_some heap_of_drew heap_of_drewN rs_arr rs_ad rs_tup putAt_ptr putOk_ptr oldOk_some built_none World.setRow_alloc_new
set_option maxRecDepth 100000
set_option linter.unusedVariables false
set_option linter.unusedSimpArgs false

set_option maxHeartbeats 4000000 in
theorem refrighttuple_any (w : World) (X : Array Value) (t : Tup) (h : TuV X t) :
    Calls Try.prog 23 #[.agg X] w fun e w' => e = .returned (.bool (rightT t)) ∧ Below w.heap.size w w' := by
  go_enter Try.func23, Try.ntmps23
  have hxs := h.size
  obtain ⟨S, hS⟩ : ∃ S, S = (adL t.sv t.sb).toArray := ⟨_, rfl⟩
  obtain ⟨D, hD⟩ : ∃ D, D = (adL t.dv t.db).toArray := ⟨_, rfl⟩
  have hsrc := h.src
  have hdst := h.dst
  rw [← hS] at hsrc
  rw [← hD] at hdst
  have aS : AdV S t.sv t.sb := by rw [hS]; exact AdV.mk' h.ls
  have aD : AdV D t.dv t.db := by rw [hD]; exact AdV.mk' h.ld
  obtain ⟨W, hW, h1, hz, hb⟩ := one_block w (.cells X 52)
  have hB := hide hb
  have hlt : Hid (W.heap.size = w.heap.size + 1) := hide hz
  have H1 := hide h1
  have HC := hide (fun (W : World) (hg : W.heap[w.heap.size]? = some (.cells X 52 (0, 0))) => h.cells hg)
  have c1 := hide (fun W => refright_any W S t.sv t.sb aS)
  have c2 := hide (fun W => refright_any W D t.dv t.db aD)
  obtain ⟨R1, hR1⟩ : ∃ R, R = rightL t.sv t.sb := ⟨_, rfl⟩
  obtain ⟨R2, hR2⟩ : ∃ R, R = rightL t.dv t.db := ⟨_, rfl⟩
  rw [← hR1] at c1
  rw [← hR2] at c2
  have HR1 := hide hR1
  have HR2 := hide hR2
  obtain ⟨k1, k2, k3, k4, k5⟩ := h.cells h1
  clear hz hb hS hD aS aD hR1 hR2
  have hT : Hid (rightT t = (R1 && R2 && t.sv == t.dv && protoOk t.p && portOk t.s && portOk t.d)) := hide (by rw [HR1.out, HR2.out]; rfl)
  obtain ⟨sv, hsv⟩ : ∃ b, b = t.sv := ⟨_, rfl⟩
  obtain ⟨dv, hdv⟩ : ∃ b, b = t.dv := ⟨_, rfl⟩
  obtain ⟨pp, hpp⟩ : ∃ b, b = t.p := ⟨_, rfl⟩
  obtain ⟨ps, hps⟩ : ∃ b, b = t.s := ⟨_, rfl⟩
  obtain ⟨pd, hpd⟩ : ∃ b, b = t.d := ⟨_, rfl⟩
  rw [← hsv, ← hdv, ← hpp, ← hps, ← hpd] at HC
  rw [← hsv] at k1 hT
  rw [← hdv] at k2 hT
  rw [← hpp] at k3 hT
  rw [← hps] at k4 hT
  rw [← hpd] at k5 hT
  clear hsv hdv hpp hps hpd
  have A1 : True := trivial
  replace hT : Hid (rightT t = (R1 && R2 && sv == dv && protoOk pp && (portOk ps && portOk pd))) := hide (by rw [hT.out]; cases R1 <;> cases R2 <;> cases (sv == dv) <;> cases protoOk pp <;> cases portOk ps <;> cases portOk pd <;> rfl)
  by_cases a1 : 0 ≤ ps
  · by_cases a2 : ps ≤ 65535
    · by_cases a3 : 0 ≤ pd
      · by_cases a4 : pd ≤ 65535
        · skip
          have hq : (portOk ps && portOk pd) = true := by unfold portOk; simp [*]
          rw [hq] at hT
          clear hq
          cases R1
          · skip
            go_wp2_with (first | (go_at_call 42; (with_reducible refine (c1.out _).mono ?_); rintro e w2 ⟨rfl, hb2⟩; have HB2 : Hid (Below W.heap.size W w2) := hide hb2; have h12 := row_kept hb2 (by have := hlt.out; omega) H1.out; obtain ⟨j1, j2, j3, j4, j5⟩ := HC.out w2 h12; clear j4 j5) | (go_at_call 42; (with_reducible refine (c2.out _).mono ?_); rintro e w3 ⟨rfl, hb3⟩; have HB3 : Hid (Below W.heap.size W w3) := hide (HB2.out.trans (hb3.mono HB2.out.size)); have h13 := row_kept hb3 (by have := hlt.out; have := HB2.out.size; omega) h12; obtain ⟨i1, i2, i3, i4, i5⟩ := HC.out w3 h13; clear i4 i5))
            go_ret
            exact ⟨by rw [hT.out]; simp, hB.out.trans (HB2.out.mono (by have := hlt.out; omega))⟩
          · cases R2
            · skip
              go_wp2_with (first | (go_at_call 42; (with_reducible refine (c1.out _).mono ?_); rintro e w2 ⟨rfl, hb2⟩; have HB2 : Hid (Below W.heap.size W w2) := hide hb2; have h12 := row_kept hb2 (by have := hlt.out; omega) H1.out; obtain ⟨j1, j2, j3, j4, j5⟩ := HC.out w2 h12; clear j4 j5) | (go_at_call 42; (with_reducible refine (c2.out _).mono ?_); rintro e w3 ⟨rfl, hb3⟩; have HB3 : Hid (Below W.heap.size W w3) := hide (HB2.out.trans (hb3.mono HB2.out.size)); have h13 := row_kept hb3 (by have := hlt.out; have := HB2.out.size; omega) h12; obtain ⟨i1, i2, i3, i4, i5⟩ := HC.out w3 h13; clear i4 i5))
              go_ret
              exact ⟨by rw [hT.out]; simp, hB.out.trans (HB3.out.mono (by have := hlt.out; omega))⟩
            · by_cases h6 : pp = 6
              · subst h6
                cases sv <;> cases dv
                · skip
                  go_wp2_with (first | (go_at_call 42; (with_reducible refine (c1.out _).mono ?_); rintro e w2 ⟨rfl, hb2⟩; have HB2 : Hid (Below W.heap.size W w2) := hide hb2; have h12 := row_kept hb2 (by have := hlt.out; omega) H1.out; obtain ⟨j1, j2, j3, j4, j5⟩ := HC.out w2 h12; clear j4 j5) | (go_at_call 42; (with_reducible refine (c2.out _).mono ?_); rintro e w3 ⟨rfl, hb3⟩; have HB3 : Hid (Below W.heap.size W w3) := hide (HB2.out.trans (hb3.mono HB2.out.size)); have h13 := row_kept hb3 (by have := hlt.out; have := HB2.out.size; omega) h12; obtain ⟨i1, i2, i3, i4, i5⟩ := HC.out w3 h13; clear i4 i5))
                  go_ret
                  exact ⟨by rw [hT.out]; rfl, hB.out.trans (HB3.out.mono (by have := hlt.out; omega))⟩
                · skip
                  go_wp2_with (first | (go_at_call 42; (with_reducible refine (c1.out _).mono ?_); rintro e w2 ⟨rfl, hb2⟩; have HB2 : Hid (Below W.heap.size W w2) := hide hb2; have h12 := row_kept hb2 (by have := hlt.out; omega) H1.out; obtain ⟨j1, j2, j3, j4, j5⟩ := HC.out w2 h12; clear j4 j5) | (go_at_call 42; (with_reducible refine (c2.out _).mono ?_); rintro e w3 ⟨rfl, hb3⟩; have HB3 : Hid (Below W.heap.size W w3) := hide (HB2.out.trans (hb3.mono HB2.out.size)); have h13 := row_kept hb3 (by have := hlt.out; have := HB2.out.size; omega) h12; obtain ⟨i1, i2, i3, i4, i5⟩ := HC.out w3 h13; clear i4 i5))
                  go_ret
                  exact ⟨by rw [hT.out]; rfl, hB.out.trans (HB3.out.mono (by have := hlt.out; omega))⟩
                · skip
                  go_wp2_with (first | (go_at_call 42; (with_reducible refine (c1.out _).mono ?_); rintro e w2 ⟨rfl, hb2⟩; have HB2 : Hid (Below W.heap.size W w2) := hide hb2; have h12 := row_kept hb2 (by have := hlt.out; omega) H1.out; obtain ⟨j1, j2, j3, j4, j5⟩ := HC.out w2 h12; clear j4 j5) | (go_at_call 42; (with_reducible refine (c2.out _).mono ?_); rintro e w3 ⟨rfl, hb3⟩; have HB3 : Hid (Below W.heap.size W w3) := hide (HB2.out.trans (hb3.mono HB2.out.size)); have h13 := row_kept hb3 (by have := hlt.out; have := HB2.out.size; omega) h12; obtain ⟨i1, i2, i3, i4, i5⟩ := HC.out w3 h13; clear i4 i5))
                  go_ret
                  exact ⟨by rw [hT.out]; rfl, hB.out.trans (HB3.out.mono (by have := hlt.out; omega))⟩
                · skip
                  go_wp2_with (first | (go_at_call 42; (with_reducible refine (c1.out _).mono ?_); rintro e w2 ⟨rfl, hb2⟩; have HB2 : Hid (Below W.heap.size W w2) := hide hb2; have h12 := row_kept hb2 (by have := hlt.out; omega) H1.out; obtain ⟨j1, j2, j3, j4, j5⟩ := HC.out w2 h12; clear j4 j5) | (go_at_call 42; (with_reducible refine (c2.out _).mono ?_); rintro e w3 ⟨rfl, hb3⟩; have HB3 : Hid (Below W.heap.size W w3) := hide (HB2.out.trans (hb3.mono HB2.out.size)); have h13 := row_kept hb3 (by have := hlt.out; have := HB2.out.size; omega) h12; obtain ⟨i1, i2, i3, i4, i5⟩ := HC.out w3 h13; clear i4 i5))
                  go_ret
                  exact ⟨by rw [hT.out]; rfl, hB.out.trans (HB3.out.mono (by have := hlt.out; omega))⟩
              · have h6i : (pp == 6) = false := by simpa using h6
                by_cases h17 : pp = 17
                · subst h17
                  cases sv <;> cases dv
                  · skip
                    go_wp2_with (first | (go_at_call 42; (with_reducible refine (c1.out _).mono ?_); rintro e w2 ⟨rfl, hb2⟩; have HB2 : Hid (Below W.heap.size W w2) := hide hb2; have h12 := row_kept hb2 (by have := hlt.out; omega) H1.out; obtain ⟨j1, j2, j3, j4, j5⟩ := HC.out w2 h12; clear j4 j5) | (go_at_call 42; (with_reducible refine (c2.out _).mono ?_); rintro e w3 ⟨rfl, hb3⟩; have HB3 : Hid (Below W.heap.size W w3) := hide (HB2.out.trans (hb3.mono HB2.out.size)); have h13 := row_kept hb3 (by have := hlt.out; have := HB2.out.size; omega) h12; obtain ⟨i1, i2, i3, i4, i5⟩ := HC.out w3 h13; clear i4 i5))
                    go_ret
                    exact ⟨by rw [hT.out]; rfl, hB.out.trans (HB3.out.mono (by have := hlt.out; omega))⟩
                  · skip
                    go_wp2_with (first | (go_at_call 42; (with_reducible refine (c1.out _).mono ?_); rintro e w2 ⟨rfl, hb2⟩; have HB2 : Hid (Below W.heap.size W w2) := hide hb2; have h12 := row_kept hb2 (by have := hlt.out; omega) H1.out; obtain ⟨j1, j2, j3, j4, j5⟩ := HC.out w2 h12; clear j4 j5) | (go_at_call 42; (with_reducible refine (c2.out _).mono ?_); rintro e w3 ⟨rfl, hb3⟩; have HB3 : Hid (Below W.heap.size W w3) := hide (HB2.out.trans (hb3.mono HB2.out.size)); have h13 := row_kept hb3 (by have := hlt.out; have := HB2.out.size; omega) h12; obtain ⟨i1, i2, i3, i4, i5⟩ := HC.out w3 h13; clear i4 i5))
                    go_ret
                    exact ⟨by rw [hT.out]; rfl, hB.out.trans (HB3.out.mono (by have := hlt.out; omega))⟩
                  · skip
                    go_wp2_with (first | (go_at_call 42; (with_reducible refine (c1.out _).mono ?_); rintro e w2 ⟨rfl, hb2⟩; have HB2 : Hid (Below W.heap.size W w2) := hide hb2; have h12 := row_kept hb2 (by have := hlt.out; omega) H1.out; obtain ⟨j1, j2, j3, j4, j5⟩ := HC.out w2 h12; clear j4 j5) | (go_at_call 42; (with_reducible refine (c2.out _).mono ?_); rintro e w3 ⟨rfl, hb3⟩; have HB3 : Hid (Below W.heap.size W w3) := hide (HB2.out.trans (hb3.mono HB2.out.size)); have h13 := row_kept hb3 (by have := hlt.out; have := HB2.out.size; omega) h12; obtain ⟨i1, i2, i3, i4, i5⟩ := HC.out w3 h13; clear i4 i5))
                    go_ret
                    exact ⟨by rw [hT.out]; rfl, hB.out.trans (HB3.out.mono (by have := hlt.out; omega))⟩
                  · skip
                    go_wp2_with (first | (go_at_call 42; (with_reducible refine (c1.out _).mono ?_); rintro e w2 ⟨rfl, hb2⟩; have HB2 : Hid (Below W.heap.size W w2) := hide hb2; have h12 := row_kept hb2 (by have := hlt.out; omega) H1.out; obtain ⟨j1, j2, j3, j4, j5⟩ := HC.out w2 h12; clear j4 j5) | (go_at_call 42; (with_reducible refine (c2.out _).mono ?_); rintro e w3 ⟨rfl, hb3⟩; have HB3 : Hid (Below W.heap.size W w3) := hide (HB2.out.trans (hb3.mono HB2.out.size)); have h13 := row_kept hb3 (by have := hlt.out; have := HB2.out.size; omega) h12; obtain ⟨i1, i2, i3, i4, i5⟩ := HC.out w3 h13; clear i4 i5))
                    go_ret
                    exact ⟨by rw [hT.out]; rfl, hB.out.trans (HB3.out.mono (by have := hlt.out; omega))⟩
                · have h17i : (pp == 17) = false := by simpa using h17
                  have HP := hide (show protoOk pp = false by unfold protoOk; rw [h6i, h17i]; rfl)
                  cases sv <;> cases dv
                  · skip
                    go_wp2_with (first | (go_at_call 42; (with_reducible refine (c1.out _).mono ?_); rintro e w2 ⟨rfl, hb2⟩; have HB2 : Hid (Below W.heap.size W w2) := hide hb2; have h12 := row_kept hb2 (by have := hlt.out; omega) H1.out; obtain ⟨j1, j2, j3, j4, j5⟩ := HC.out w2 h12; clear j4 j5) | (go_at_call 42; (with_reducible refine (c2.out _).mono ?_); rintro e w3 ⟨rfl, hb3⟩; have HB3 : Hid (Below W.heap.size W w3) := hide (HB2.out.trans (hb3.mono HB2.out.size)); have h13 := row_kept hb3 (by have := hlt.out; have := HB2.out.size; omega) h12; obtain ⟨i1, i2, i3, i4, i5⟩ := HC.out w3 h13; clear i4 i5))
                    go_ret
                    exact ⟨by rw [hT.out]; rw [HP.out]; rfl, hB.out.trans (HB3.out.mono (by have := hlt.out; omega))⟩
                  · skip
                    go_wp2_with (first | (go_at_call 42; (with_reducible refine (c1.out _).mono ?_); rintro e w2 ⟨rfl, hb2⟩; have HB2 : Hid (Below W.heap.size W w2) := hide hb2; have h12 := row_kept hb2 (by have := hlt.out; omega) H1.out; obtain ⟨j1, j2, j3, j4, j5⟩ := HC.out w2 h12; clear j4 j5) | (go_at_call 42; (with_reducible refine (c2.out _).mono ?_); rintro e w3 ⟨rfl, hb3⟩; have HB3 : Hid (Below W.heap.size W w3) := hide (HB2.out.trans (hb3.mono HB2.out.size)); have h13 := row_kept hb3 (by have := hlt.out; have := HB2.out.size; omega) h12; obtain ⟨i1, i2, i3, i4, i5⟩ := HC.out w3 h13; clear i4 i5))
                    go_ret
                    exact ⟨by rw [hT.out]; rw [HP.out]; rfl, hB.out.trans (HB3.out.mono (by have := hlt.out; omega))⟩
                  · skip
                    go_wp2_with (first | (go_at_call 42; (with_reducible refine (c1.out _).mono ?_); rintro e w2 ⟨rfl, hb2⟩; have HB2 : Hid (Below W.heap.size W w2) := hide hb2; have h12 := row_kept hb2 (by have := hlt.out; omega) H1.out; obtain ⟨j1, j2, j3, j4, j5⟩ := HC.out w2 h12; clear j4 j5) | (go_at_call 42; (with_reducible refine (c2.out _).mono ?_); rintro e w3 ⟨rfl, hb3⟩; have HB3 : Hid (Below W.heap.size W w3) := hide (HB2.out.trans (hb3.mono HB2.out.size)); have h13 := row_kept hb3 (by have := hlt.out; have := HB2.out.size; omega) h12; obtain ⟨i1, i2, i3, i4, i5⟩ := HC.out w3 h13; clear i4 i5))
                    go_ret
                    exact ⟨by rw [hT.out]; rw [HP.out]; rfl, hB.out.trans (HB3.out.mono (by have := hlt.out; omega))⟩
                  · skip
                    go_wp2_with (first | (go_at_call 42; (with_reducible refine (c1.out _).mono ?_); rintro e w2 ⟨rfl, hb2⟩; have HB2 : Hid (Below W.heap.size W w2) := hide hb2; have h12 := row_kept hb2 (by have := hlt.out; omega) H1.out; obtain ⟨j1, j2, j3, j4, j5⟩ := HC.out w2 h12; clear j4 j5) | (go_at_call 42; (with_reducible refine (c2.out _).mono ?_); rintro e w3 ⟨rfl, hb3⟩; have HB3 : Hid (Below W.heap.size W w3) := hide (HB2.out.trans (hb3.mono HB2.out.size)); have h13 := row_kept hb3 (by have := hlt.out; have := HB2.out.size; omega) h12; obtain ⟨i1, i2, i3, i4, i5⟩ := HC.out w3 h13; clear i4 i5))
                    go_ret
                    exact ⟨by rw [hT.out]; rw [HP.out]; rfl, hB.out.trans (HB3.out.mono (by have := hlt.out; omega))⟩
        · skip
          have hq : (portOk ps && portOk pd) = false := by unfold portOk; simp [*]
          rw [hq] at hT
          clear hq
          cases R1
          · skip
            go_wp2_with (first | (go_at_call 42; (with_reducible refine (c1.out _).mono ?_); rintro e w2 ⟨rfl, hb2⟩; have HB2 : Hid (Below W.heap.size W w2) := hide hb2; have h12 := row_kept hb2 (by have := hlt.out; omega) H1.out; obtain ⟨j1, j2, j3, j4, j5⟩ := HC.out w2 h12; clear j4 j5) | (go_at_call 42; (with_reducible refine (c2.out _).mono ?_); rintro e w3 ⟨rfl, hb3⟩; have HB3 : Hid (Below W.heap.size W w3) := hide (HB2.out.trans (hb3.mono HB2.out.size)); have h13 := row_kept hb3 (by have := hlt.out; have := HB2.out.size; omega) h12; obtain ⟨i1, i2, i3, i4, i5⟩ := HC.out w3 h13; clear i4 i5))
            go_ret
            exact ⟨by rw [hT.out]; simp, hB.out.trans (HB2.out.mono (by have := hlt.out; omega))⟩
          · cases R2
            · skip
              go_wp2_with (first | (go_at_call 42; (with_reducible refine (c1.out _).mono ?_); rintro e w2 ⟨rfl, hb2⟩; have HB2 : Hid (Below W.heap.size W w2) := hide hb2; have h12 := row_kept hb2 (by have := hlt.out; omega) H1.out; obtain ⟨j1, j2, j3, j4, j5⟩ := HC.out w2 h12; clear j4 j5) | (go_at_call 42; (with_reducible refine (c2.out _).mono ?_); rintro e w3 ⟨rfl, hb3⟩; have HB3 : Hid (Below W.heap.size W w3) := hide (HB2.out.trans (hb3.mono HB2.out.size)); have h13 := row_kept hb3 (by have := hlt.out; have := HB2.out.size; omega) h12; obtain ⟨i1, i2, i3, i4, i5⟩ := HC.out w3 h13; clear i4 i5))
              go_ret
              exact ⟨by rw [hT.out]; simp, hB.out.trans (HB3.out.mono (by have := hlt.out; omega))⟩
            · by_cases h6 : pp = 6
              · subst h6
                cases sv <;> cases dv
                · skip
                  go_wp2_with (first | (go_at_call 42; (with_reducible refine (c1.out _).mono ?_); rintro e w2 ⟨rfl, hb2⟩; have HB2 : Hid (Below W.heap.size W w2) := hide hb2; have h12 := row_kept hb2 (by have := hlt.out; omega) H1.out; obtain ⟨j1, j2, j3, j4, j5⟩ := HC.out w2 h12; clear j4 j5) | (go_at_call 42; (with_reducible refine (c2.out _).mono ?_); rintro e w3 ⟨rfl, hb3⟩; have HB3 : Hid (Below W.heap.size W w3) := hide (HB2.out.trans (hb3.mono HB2.out.size)); have h13 := row_kept hb3 (by have := hlt.out; have := HB2.out.size; omega) h12; obtain ⟨i1, i2, i3, i4, i5⟩ := HC.out w3 h13; clear i4 i5))
                  go_ret
                  exact ⟨by rw [hT.out]; rfl, hB.out.trans (HB3.out.mono (by have := hlt.out; omega))⟩
                · skip
                  go_wp2_with (first | (go_at_call 42; (with_reducible refine (c1.out _).mono ?_); rintro e w2 ⟨rfl, hb2⟩; have HB2 : Hid (Below W.heap.size W w2) := hide hb2; have h12 := row_kept hb2 (by have := hlt.out; omega) H1.out; obtain ⟨j1, j2, j3, j4, j5⟩ := HC.out w2 h12; clear j4 j5) | (go_at_call 42; (with_reducible refine (c2.out _).mono ?_); rintro e w3 ⟨rfl, hb3⟩; have HB3 : Hid (Below W.heap.size W w3) := hide (HB2.out.trans (hb3.mono HB2.out.size)); have h13 := row_kept hb3 (by have := hlt.out; have := HB2.out.size; omega) h12; obtain ⟨i1, i2, i3, i4, i5⟩ := HC.out w3 h13; clear i4 i5))
                  go_ret
                  exact ⟨by rw [hT.out]; rfl, hB.out.trans (HB3.out.mono (by have := hlt.out; omega))⟩
                · skip
                  go_wp2_with (first | (go_at_call 42; (with_reducible refine (c1.out _).mono ?_); rintro e w2 ⟨rfl, hb2⟩; have HB2 : Hid (Below W.heap.size W w2) := hide hb2; have h12 := row_kept hb2 (by have := hlt.out; omega) H1.out; obtain ⟨j1, j2, j3, j4, j5⟩ := HC.out w2 h12; clear j4 j5) | (go_at_call 42; (with_reducible refine (c2.out _).mono ?_); rintro e w3 ⟨rfl, hb3⟩; have HB3 : Hid (Below W.heap.size W w3) := hide (HB2.out.trans (hb3.mono HB2.out.size)); have h13 := row_kept hb3 (by have := hlt.out; have := HB2.out.size; omega) h12; obtain ⟨i1, i2, i3, i4, i5⟩ := HC.out w3 h13; clear i4 i5))
                  go_ret
                  exact ⟨by rw [hT.out]; rfl, hB.out.trans (HB3.out.mono (by have := hlt.out; omega))⟩
                · skip
                  go_wp2_with (first | (go_at_call 42; (with_reducible refine (c1.out _).mono ?_); rintro e w2 ⟨rfl, hb2⟩; have HB2 : Hid (Below W.heap.size W w2) := hide hb2; have h12 := row_kept hb2 (by have := hlt.out; omega) H1.out; obtain ⟨j1, j2, j3, j4, j5⟩ := HC.out w2 h12; clear j4 j5) | (go_at_call 42; (with_reducible refine (c2.out _).mono ?_); rintro e w3 ⟨rfl, hb3⟩; have HB3 : Hid (Below W.heap.size W w3) := hide (HB2.out.trans (hb3.mono HB2.out.size)); have h13 := row_kept hb3 (by have := hlt.out; have := HB2.out.size; omega) h12; obtain ⟨i1, i2, i3, i4, i5⟩ := HC.out w3 h13; clear i4 i5))
                  go_ret
                  exact ⟨by rw [hT.out]; rfl, hB.out.trans (HB3.out.mono (by have := hlt.out; omega))⟩
              · have h6i : (pp == 6) = false := by simpa using h6
                by_cases h17 : pp = 17
                · subst h17
                  cases sv <;> cases dv
                  · skip
                    go_wp2_with (first | (go_at_call 42; (with_reducible refine (c1.out _).mono ?_); rintro e w2 ⟨rfl, hb2⟩; have HB2 : Hid (Below W.heap.size W w2) := hide hb2; have h12 := row_kept hb2 (by have := hlt.out; omega) H1.out; obtain ⟨j1, j2, j3, j4, j5⟩ := HC.out w2 h12; clear j4 j5) | (go_at_call 42; (with_reducible refine (c2.out _).mono ?_); rintro e w3 ⟨rfl, hb3⟩; have HB3 : Hid (Below W.heap.size W w3) := hide (HB2.out.trans (hb3.mono HB2.out.size)); have h13 := row_kept hb3 (by have := hlt.out; have := HB2.out.size; omega) h12; obtain ⟨i1, i2, i3, i4, i5⟩ := HC.out w3 h13; clear i4 i5))
                    go_ret
                    exact ⟨by rw [hT.out]; rfl, hB.out.trans (HB3.out.mono (by have := hlt.out; omega))⟩
                  · skip
                    go_wp2_with (first | (go_at_call 42; (with_reducible refine (c1.out _).mono ?_); rintro e w2 ⟨rfl, hb2⟩; have HB2 : Hid (Below W.heap.size W w2) := hide hb2; have h12 := row_kept hb2 (by have := hlt.out; omega) H1.out; obtain ⟨j1, j2, j3, j4, j5⟩ := HC.out w2 h12; clear j4 j5) | (go_at_call 42; (with_reducible refine (c2.out _).mono ?_); rintro e w3 ⟨rfl, hb3⟩; have HB3 : Hid (Below W.heap.size W w3) := hide (HB2.out.trans (hb3.mono HB2.out.size)); have h13 := row_kept hb3 (by have := hlt.out; have := HB2.out.size; omega) h12; obtain ⟨i1, i2, i3, i4, i5⟩ := HC.out w3 h13; clear i4 i5))
                    go_ret
                    exact ⟨by rw [hT.out]; rfl, hB.out.trans (HB3.out.mono (by have := hlt.out; omega))⟩
                  · skip
                    go_wp2_with (first | (go_at_call 42; (with_reducible refine (c1.out _).mono ?_); rintro e w2 ⟨rfl, hb2⟩; have HB2 : Hid (Below W.heap.size W w2) := hide hb2; have h12 := row_kept hb2 (by have := hlt.out; omega) H1.out; obtain ⟨j1, j2, j3, j4, j5⟩ := HC.out w2 h12; clear j4 j5) | (go_at_call 42; (with_reducible refine (c2.out _).mono ?_); rintro e w3 ⟨rfl, hb3⟩; have HB3 : Hid (Below W.heap.size W w3) := hide (HB2.out.trans (hb3.mono HB2.out.size)); have h13 := row_kept hb3 (by have := hlt.out; have := HB2.out.size; omega) h12; obtain ⟨i1, i2, i3, i4, i5⟩ := HC.out w3 h13; clear i4 i5))
                    go_ret
                    exact ⟨by rw [hT.out]; rfl, hB.out.trans (HB3.out.mono (by have := hlt.out; omega))⟩
                  · skip
                    go_wp2_with (first | (go_at_call 42; (with_reducible refine (c1.out _).mono ?_); rintro e w2 ⟨rfl, hb2⟩; have HB2 : Hid (Below W.heap.size W w2) := hide hb2; have h12 := row_kept hb2 (by have := hlt.out; omega) H1.out; obtain ⟨j1, j2, j3, j4, j5⟩ := HC.out w2 h12; clear j4 j5) | (go_at_call 42; (with_reducible refine (c2.out _).mono ?_); rintro e w3 ⟨rfl, hb3⟩; have HB3 : Hid (Below W.heap.size W w3) := hide (HB2.out.trans (hb3.mono HB2.out.size)); have h13 := row_kept hb3 (by have := hlt.out; have := HB2.out.size; omega) h12; obtain ⟨i1, i2, i3, i4, i5⟩ := HC.out w3 h13; clear i4 i5))
                    go_ret
                    exact ⟨by rw [hT.out]; rfl, hB.out.trans (HB3.out.mono (by have := hlt.out; omega))⟩
                · have h17i : (pp == 17) = false := by simpa using h17
                  have HP := hide (show protoOk pp = false by unfold protoOk; rw [h6i, h17i]; rfl)
                  cases sv <;> cases dv
                  · skip
                    go_wp2_with (first | (go_at_call 42; (with_reducible refine (c1.out _).mono ?_); rintro e w2 ⟨rfl, hb2⟩; have HB2 : Hid (Below W.heap.size W w2) := hide hb2; have h12 := row_kept hb2 (by have := hlt.out; omega) H1.out; obtain ⟨j1, j2, j3, j4, j5⟩ := HC.out w2 h12; clear j4 j5) | (go_at_call 42; (with_reducible refine (c2.out _).mono ?_); rintro e w3 ⟨rfl, hb3⟩; have HB3 : Hid (Below W.heap.size W w3) := hide (HB2.out.trans (hb3.mono HB2.out.size)); have h13 := row_kept hb3 (by have := hlt.out; have := HB2.out.size; omega) h12; obtain ⟨i1, i2, i3, i4, i5⟩ := HC.out w3 h13; clear i4 i5))
                    go_ret
                    exact ⟨by rw [hT.out]; rw [HP.out]; rfl, hB.out.trans (HB3.out.mono (by have := hlt.out; omega))⟩
                  · skip
                    go_wp2_with (first | (go_at_call 42; (with_reducible refine (c1.out _).mono ?_); rintro e w2 ⟨rfl, hb2⟩; have HB2 : Hid (Below W.heap.size W w2) := hide hb2; have h12 := row_kept hb2 (by have := hlt.out; omega) H1.out; obtain ⟨j1, j2, j3, j4, j5⟩ := HC.out w2 h12; clear j4 j5) | (go_at_call 42; (with_reducible refine (c2.out _).mono ?_); rintro e w3 ⟨rfl, hb3⟩; have HB3 : Hid (Below W.heap.size W w3) := hide (HB2.out.trans (hb3.mono HB2.out.size)); have h13 := row_kept hb3 (by have := hlt.out; have := HB2.out.size; omega) h12; obtain ⟨i1, i2, i3, i4, i5⟩ := HC.out w3 h13; clear i4 i5))
                    go_ret
                    exact ⟨by rw [hT.out]; rw [HP.out]; rfl, hB.out.trans (HB3.out.mono (by have := hlt.out; omega))⟩
                  · skip
                    go_wp2_with (first | (go_at_call 42; (with_reducible refine (c1.out _).mono ?_); rintro e w2 ⟨rfl, hb2⟩; have HB2 : Hid (Below W.heap.size W w2) := hide hb2; have h12 := row_kept hb2 (by have := hlt.out; omega) H1.out; obtain ⟨j1, j2, j3, j4, j5⟩ := HC.out w2 h12; clear j4 j5) | (go_at_call 42; (with_reducible refine (c2.out _).mono ?_); rintro e w3 ⟨rfl, hb3⟩; have HB3 : Hid (Below W.heap.size W w3) := hide (HB2.out.trans (hb3.mono HB2.out.size)); have h13 := row_kept hb3 (by have := hlt.out; have := HB2.out.size; omega) h12; obtain ⟨i1, i2, i3, i4, i5⟩ := HC.out w3 h13; clear i4 i5))
                    go_ret
                    exact ⟨by rw [hT.out]; rw [HP.out]; rfl, hB.out.trans (HB3.out.mono (by have := hlt.out; omega))⟩
                  · skip
                    go_wp2_with (first | (go_at_call 42; (with_reducible refine (c1.out _).mono ?_); rintro e w2 ⟨rfl, hb2⟩; have HB2 : Hid (Below W.heap.size W w2) := hide hb2; have h12 := row_kept hb2 (by have := hlt.out; omega) H1.out; obtain ⟨j1, j2, j3, j4, j5⟩ := HC.out w2 h12; clear j4 j5) | (go_at_call 42; (with_reducible refine (c2.out _).mono ?_); rintro e w3 ⟨rfl, hb3⟩; have HB3 : Hid (Below W.heap.size W w3) := hide (HB2.out.trans (hb3.mono HB2.out.size)); have h13 := row_kept hb3 (by have := hlt.out; have := HB2.out.size; omega) h12; obtain ⟨i1, i2, i3, i4, i5⟩ := HC.out w3 h13; clear i4 i5))
                    go_ret
                    exact ⟨by rw [hT.out]; rw [HP.out]; rfl, hB.out.trans (HB3.out.mono (by have := hlt.out; omega))⟩
      · skip
        have hq : (portOk ps && portOk pd) = false := by unfold portOk; simp [*]
        rw [hq] at hT
        clear hq
        cases R1
        · skip
          go_wp2_with (first | (go_at_call 42; (with_reducible refine (c1.out _).mono ?_); rintro e w2 ⟨rfl, hb2⟩; have HB2 : Hid (Below W.heap.size W w2) := hide hb2; have h12 := row_kept hb2 (by have := hlt.out; omega) H1.out; obtain ⟨j1, j2, j3, j4, j5⟩ := HC.out w2 h12; clear j4 j5) | (go_at_call 42; (with_reducible refine (c2.out _).mono ?_); rintro e w3 ⟨rfl, hb3⟩; have HB3 : Hid (Below W.heap.size W w3) := hide (HB2.out.trans (hb3.mono HB2.out.size)); have h13 := row_kept hb3 (by have := hlt.out; have := HB2.out.size; omega) h12; obtain ⟨i1, i2, i3, i4, i5⟩ := HC.out w3 h13; clear i4 i5))
          go_ret
          exact ⟨by rw [hT.out]; simp, hB.out.trans (HB2.out.mono (by have := hlt.out; omega))⟩
        · cases R2
          · skip
            go_wp2_with (first | (go_at_call 42; (with_reducible refine (c1.out _).mono ?_); rintro e w2 ⟨rfl, hb2⟩; have HB2 : Hid (Below W.heap.size W w2) := hide hb2; have h12 := row_kept hb2 (by have := hlt.out; omega) H1.out; obtain ⟨j1, j2, j3, j4, j5⟩ := HC.out w2 h12; clear j4 j5) | (go_at_call 42; (with_reducible refine (c2.out _).mono ?_); rintro e w3 ⟨rfl, hb3⟩; have HB3 : Hid (Below W.heap.size W w3) := hide (HB2.out.trans (hb3.mono HB2.out.size)); have h13 := row_kept hb3 (by have := hlt.out; have := HB2.out.size; omega) h12; obtain ⟨i1, i2, i3, i4, i5⟩ := HC.out w3 h13; clear i4 i5))
            go_ret
            exact ⟨by rw [hT.out]; simp, hB.out.trans (HB3.out.mono (by have := hlt.out; omega))⟩
          · by_cases h6 : pp = 6
            · subst h6
              cases sv <;> cases dv
              · skip
                go_wp2_with (first | (go_at_call 42; (with_reducible refine (c1.out _).mono ?_); rintro e w2 ⟨rfl, hb2⟩; have HB2 : Hid (Below W.heap.size W w2) := hide hb2; have h12 := row_kept hb2 (by have := hlt.out; omega) H1.out; obtain ⟨j1, j2, j3, j4, j5⟩ := HC.out w2 h12; clear j4 j5) | (go_at_call 42; (with_reducible refine (c2.out _).mono ?_); rintro e w3 ⟨rfl, hb3⟩; have HB3 : Hid (Below W.heap.size W w3) := hide (HB2.out.trans (hb3.mono HB2.out.size)); have h13 := row_kept hb3 (by have := hlt.out; have := HB2.out.size; omega) h12; obtain ⟨i1, i2, i3, i4, i5⟩ := HC.out w3 h13; clear i4 i5))
                go_ret
                exact ⟨by rw [hT.out]; rfl, hB.out.trans (HB3.out.mono (by have := hlt.out; omega))⟩
              · skip
                go_wp2_with (first | (go_at_call 42; (with_reducible refine (c1.out _).mono ?_); rintro e w2 ⟨rfl, hb2⟩; have HB2 : Hid (Below W.heap.size W w2) := hide hb2; have h12 := row_kept hb2 (by have := hlt.out; omega) H1.out; obtain ⟨j1, j2, j3, j4, j5⟩ := HC.out w2 h12; clear j4 j5) | (go_at_call 42; (with_reducible refine (c2.out _).mono ?_); rintro e w3 ⟨rfl, hb3⟩; have HB3 : Hid (Below W.heap.size W w3) := hide (HB2.out.trans (hb3.mono HB2.out.size)); have h13 := row_kept hb3 (by have := hlt.out; have := HB2.out.size; omega) h12; obtain ⟨i1, i2, i3, i4, i5⟩ := HC.out w3 h13; clear i4 i5))
                go_ret
                exact ⟨by rw [hT.out]; rfl, hB.out.trans (HB3.out.mono (by have := hlt.out; omega))⟩
              · skip
                go_wp2_with (first | (go_at_call 42; (with_reducible refine (c1.out _).mono ?_); rintro e w2 ⟨rfl, hb2⟩; have HB2 : Hid (Below W.heap.size W w2) := hide hb2; have h12 := row_kept hb2 (by have := hlt.out; omega) H1.out; obtain ⟨j1, j2, j3, j4, j5⟩ := HC.out w2 h12; clear j4 j5) | (go_at_call 42; (with_reducible refine (c2.out _).mono ?_); rintro e w3 ⟨rfl, hb3⟩; have HB3 : Hid (Below W.heap.size W w3) := hide (HB2.out.trans (hb3.mono HB2.out.size)); have h13 := row_kept hb3 (by have := hlt.out; have := HB2.out.size; omega) h12; obtain ⟨i1, i2, i3, i4, i5⟩ := HC.out w3 h13; clear i4 i5))
                go_ret
                exact ⟨by rw [hT.out]; rfl, hB.out.trans (HB3.out.mono (by have := hlt.out; omega))⟩
              · skip
                go_wp2_with (first | (go_at_call 42; (with_reducible refine (c1.out _).mono ?_); rintro e w2 ⟨rfl, hb2⟩; have HB2 : Hid (Below W.heap.size W w2) := hide hb2; have h12 := row_kept hb2 (by have := hlt.out; omega) H1.out; obtain ⟨j1, j2, j3, j4, j5⟩ := HC.out w2 h12; clear j4 j5) | (go_at_call 42; (with_reducible refine (c2.out _).mono ?_); rintro e w3 ⟨rfl, hb3⟩; have HB3 : Hid (Below W.heap.size W w3) := hide (HB2.out.trans (hb3.mono HB2.out.size)); have h13 := row_kept hb3 (by have := hlt.out; have := HB2.out.size; omega) h12; obtain ⟨i1, i2, i3, i4, i5⟩ := HC.out w3 h13; clear i4 i5))
                go_ret
                exact ⟨by rw [hT.out]; rfl, hB.out.trans (HB3.out.mono (by have := hlt.out; omega))⟩
            · have h6i : (pp == 6) = false := by simpa using h6
              by_cases h17 : pp = 17
              · subst h17
                cases sv <;> cases dv
                · skip
                  go_wp2_with (first | (go_at_call 42; (with_reducible refine (c1.out _).mono ?_); rintro e w2 ⟨rfl, hb2⟩; have HB2 : Hid (Below W.heap.size W w2) := hide hb2; have h12 := row_kept hb2 (by have := hlt.out; omega) H1.out; obtain ⟨j1, j2, j3, j4, j5⟩ := HC.out w2 h12; clear j4 j5) | (go_at_call 42; (with_reducible refine (c2.out _).mono ?_); rintro e w3 ⟨rfl, hb3⟩; have HB3 : Hid (Below W.heap.size W w3) := hide (HB2.out.trans (hb3.mono HB2.out.size)); have h13 := row_kept hb3 (by have := hlt.out; have := HB2.out.size; omega) h12; obtain ⟨i1, i2, i3, i4, i5⟩ := HC.out w3 h13; clear i4 i5))
                  go_ret
                  exact ⟨by rw [hT.out]; rfl, hB.out.trans (HB3.out.mono (by have := hlt.out; omega))⟩
                · skip
                  go_wp2_with (first | (go_at_call 42; (with_reducible refine (c1.out _).mono ?_); rintro e w2 ⟨rfl, hb2⟩; have HB2 : Hid (Below W.heap.size W w2) := hide hb2; have h12 := row_kept hb2 (by have := hlt.out; omega) H1.out; obtain ⟨j1, j2, j3, j4, j5⟩ := HC.out w2 h12; clear j4 j5) | (go_at_call 42; (with_reducible refine (c2.out _).mono ?_); rintro e w3 ⟨rfl, hb3⟩; have HB3 : Hid (Below W.heap.size W w3) := hide (HB2.out.trans (hb3.mono HB2.out.size)); have h13 := row_kept hb3 (by have := hlt.out; have := HB2.out.size; omega) h12; obtain ⟨i1, i2, i3, i4, i5⟩ := HC.out w3 h13; clear i4 i5))
                  go_ret
                  exact ⟨by rw [hT.out]; rfl, hB.out.trans (HB3.out.mono (by have := hlt.out; omega))⟩
                · skip
                  go_wp2_with (first | (go_at_call 42; (with_reducible refine (c1.out _).mono ?_); rintro e w2 ⟨rfl, hb2⟩; have HB2 : Hid (Below W.heap.size W w2) := hide hb2; have h12 := row_kept hb2 (by have := hlt.out; omega) H1.out; obtain ⟨j1, j2, j3, j4, j5⟩ := HC.out w2 h12; clear j4 j5) | (go_at_call 42; (with_reducible refine (c2.out _).mono ?_); rintro e w3 ⟨rfl, hb3⟩; have HB3 : Hid (Below W.heap.size W w3) := hide (HB2.out.trans (hb3.mono HB2.out.size)); have h13 := row_kept hb3 (by have := hlt.out; have := HB2.out.size; omega) h12; obtain ⟨i1, i2, i3, i4, i5⟩ := HC.out w3 h13; clear i4 i5))
                  go_ret
                  exact ⟨by rw [hT.out]; rfl, hB.out.trans (HB3.out.mono (by have := hlt.out; omega))⟩
                · skip
                  go_wp2_with (first | (go_at_call 42; (with_reducible refine (c1.out _).mono ?_); rintro e w2 ⟨rfl, hb2⟩; have HB2 : Hid (Below W.heap.size W w2) := hide hb2; have h12 := row_kept hb2 (by have := hlt.out; omega) H1.out; obtain ⟨j1, j2, j3, j4, j5⟩ := HC.out w2 h12; clear j4 j5) | (go_at_call 42; (with_reducible refine (c2.out _).mono ?_); rintro e w3 ⟨rfl, hb3⟩; have HB3 : Hid (Below W.heap.size W w3) := hide (HB2.out.trans (hb3.mono HB2.out.size)); have h13 := row_kept hb3 (by have := hlt.out; have := HB2.out.size; omega) h12; obtain ⟨i1, i2, i3, i4, i5⟩ := HC.out w3 h13; clear i4 i5))
                  go_ret
                  exact ⟨by rw [hT.out]; rfl, hB.out.trans (HB3.out.mono (by have := hlt.out; omega))⟩
              · have h17i : (pp == 17) = false := by simpa using h17
                have HP := hide (show protoOk pp = false by unfold protoOk; rw [h6i, h17i]; rfl)
                cases sv <;> cases dv
                · skip
                  go_wp2_with (first | (go_at_call 42; (with_reducible refine (c1.out _).mono ?_); rintro e w2 ⟨rfl, hb2⟩; have HB2 : Hid (Below W.heap.size W w2) := hide hb2; have h12 := row_kept hb2 (by have := hlt.out; omega) H1.out; obtain ⟨j1, j2, j3, j4, j5⟩ := HC.out w2 h12; clear j4 j5) | (go_at_call 42; (with_reducible refine (c2.out _).mono ?_); rintro e w3 ⟨rfl, hb3⟩; have HB3 : Hid (Below W.heap.size W w3) := hide (HB2.out.trans (hb3.mono HB2.out.size)); have h13 := row_kept hb3 (by have := hlt.out; have := HB2.out.size; omega) h12; obtain ⟨i1, i2, i3, i4, i5⟩ := HC.out w3 h13; clear i4 i5))
                  go_ret
                  exact ⟨by rw [hT.out]; rw [HP.out]; rfl, hB.out.trans (HB3.out.mono (by have := hlt.out; omega))⟩
                · skip
                  go_wp2_with (first | (go_at_call 42; (with_reducible refine (c1.out _).mono ?_); rintro e w2 ⟨rfl, hb2⟩; have HB2 : Hid (Below W.heap.size W w2) := hide hb2; have h12 := row_kept hb2 (by have := hlt.out; omega) H1.out; obtain ⟨j1, j2, j3, j4, j5⟩ := HC.out w2 h12; clear j4 j5) | (go_at_call 42; (with_reducible refine (c2.out _).mono ?_); rintro e w3 ⟨rfl, hb3⟩; have HB3 : Hid (Below W.heap.size W w3) := hide (HB2.out.trans (hb3.mono HB2.out.size)); have h13 := row_kept hb3 (by have := hlt.out; have := HB2.out.size; omega) h12; obtain ⟨i1, i2, i3, i4, i5⟩ := HC.out w3 h13; clear i4 i5))
                  go_ret
                  exact ⟨by rw [hT.out]; rw [HP.out]; rfl, hB.out.trans (HB3.out.mono (by have := hlt.out; omega))⟩
                · skip
                  go_wp2_with (first | (go_at_call 42; (with_reducible refine (c1.out _).mono ?_); rintro e w2 ⟨rfl, hb2⟩; have HB2 : Hid (Below W.heap.size W w2) := hide hb2; have h12 := row_kept hb2 (by have := hlt.out; omega) H1.out; obtain ⟨j1, j2, j3, j4, j5⟩ := HC.out w2 h12; clear j4 j5) | (go_at_call 42; (with_reducible refine (c2.out _).mono ?_); rintro e w3 ⟨rfl, hb3⟩; have HB3 : Hid (Below W.heap.size W w3) := hide (HB2.out.trans (hb3.mono HB2.out.size)); have h13 := row_kept hb3 (by have := hlt.out; have := HB2.out.size; omega) h12; obtain ⟨i1, i2, i3, i4, i5⟩ := HC.out w3 h13; clear i4 i5))
                  go_ret
                  exact ⟨by rw [hT.out]; rw [HP.out]; rfl, hB.out.trans (HB3.out.mono (by have := hlt.out; omega))⟩
                · skip
                  go_wp2_with (first | (go_at_call 42; (with_reducible refine (c1.out _).mono ?_); rintro e w2 ⟨rfl, hb2⟩; have HB2 : Hid (Below W.heap.size W w2) := hide hb2; have h12 := row_kept hb2 (by have := hlt.out; omega) H1.out; obtain ⟨j1, j2, j3, j4, j5⟩ := HC.out w2 h12; clear j4 j5) | (go_at_call 42; (with_reducible refine (c2.out _).mono ?_); rintro e w3 ⟨rfl, hb3⟩; have HB3 : Hid (Below W.heap.size W w3) := hide (HB2.out.trans (hb3.mono HB2.out.size)); have h13 := row_kept hb3 (by have := hlt.out; have := HB2.out.size; omega) h12; obtain ⟨i1, i2, i3, i4, i5⟩ := HC.out w3 h13; clear i4 i5))
                  go_ret
                  exact ⟨by rw [hT.out]; rw [HP.out]; rfl, hB.out.trans (HB3.out.mono (by have := hlt.out; omega))⟩
    · skip
      have hq : (portOk ps && portOk pd) = false := by unfold portOk; simp [*]
      rw [hq] at hT
      clear hq
      cases R1
      · skip
        go_wp2_with (first | (go_at_call 42; (with_reducible refine (c1.out _).mono ?_); rintro e w2 ⟨rfl, hb2⟩; have HB2 : Hid (Below W.heap.size W w2) := hide hb2; have h12 := row_kept hb2 (by have := hlt.out; omega) H1.out; obtain ⟨j1, j2, j3, j4, j5⟩ := HC.out w2 h12; clear j4 j5) | (go_at_call 42; (with_reducible refine (c2.out _).mono ?_); rintro e w3 ⟨rfl, hb3⟩; have HB3 : Hid (Below W.heap.size W w3) := hide (HB2.out.trans (hb3.mono HB2.out.size)); have h13 := row_kept hb3 (by have := hlt.out; have := HB2.out.size; omega) h12; obtain ⟨i1, i2, i3, i4, i5⟩ := HC.out w3 h13; clear i4 i5))
        go_ret
        exact ⟨by rw [hT.out]; simp, hB.out.trans (HB2.out.mono (by have := hlt.out; omega))⟩
      · cases R2
        · skip
          go_wp2_with (first | (go_at_call 42; (with_reducible refine (c1.out _).mono ?_); rintro e w2 ⟨rfl, hb2⟩; have HB2 : Hid (Below W.heap.size W w2) := hide hb2; have h12 := row_kept hb2 (by have := hlt.out; omega) H1.out; obtain ⟨j1, j2, j3, j4, j5⟩ := HC.out w2 h12; clear j4 j5) | (go_at_call 42; (with_reducible refine (c2.out _).mono ?_); rintro e w3 ⟨rfl, hb3⟩; have HB3 : Hid (Below W.heap.size W w3) := hide (HB2.out.trans (hb3.mono HB2.out.size)); have h13 := row_kept hb3 (by have := hlt.out; have := HB2.out.size; omega) h12; obtain ⟨i1, i2, i3, i4, i5⟩ := HC.out w3 h13; clear i4 i5))
          go_ret
          exact ⟨by rw [hT.out]; simp, hB.out.trans (HB3.out.mono (by have := hlt.out; omega))⟩
        · by_cases h6 : pp = 6
          · subst h6
            cases sv <;> cases dv
            · skip
              go_wp2_with (first | (go_at_call 42; (with_reducible refine (c1.out _).mono ?_); rintro e w2 ⟨rfl, hb2⟩; have HB2 : Hid (Below W.heap.size W w2) := hide hb2; have h12 := row_kept hb2 (by have := hlt.out; omega) H1.out; obtain ⟨j1, j2, j3, j4, j5⟩ := HC.out w2 h12; clear j4 j5) | (go_at_call 42; (with_reducible refine (c2.out _).mono ?_); rintro e w3 ⟨rfl, hb3⟩; have HB3 : Hid (Below W.heap.size W w3) := hide (HB2.out.trans (hb3.mono HB2.out.size)); have h13 := row_kept hb3 (by have := hlt.out; have := HB2.out.size; omega) h12; obtain ⟨i1, i2, i3, i4, i5⟩ := HC.out w3 h13; clear i4 i5))
              go_ret
              exact ⟨by rw [hT.out]; rfl, hB.out.trans (HB3.out.mono (by have := hlt.out; omega))⟩
            · skip
              go_wp2_with (first | (go_at_call 42; (with_reducible refine (c1.out _).mono ?_); rintro e w2 ⟨rfl, hb2⟩; have HB2 : Hid (Below W.heap.size W w2) := hide hb2; have h12 := row_kept hb2 (by have := hlt.out; omega) H1.out; obtain ⟨j1, j2, j3, j4, j5⟩ := HC.out w2 h12; clear j4 j5) | (go_at_call 42; (with_reducible refine (c2.out _).mono ?_); rintro e w3 ⟨rfl, hb3⟩; have HB3 : Hid (Below W.heap.size W w3) := hide (HB2.out.trans (hb3.mono HB2.out.size)); have h13 := row_kept hb3 (by have := hlt.out; have := HB2.out.size; omega) h12; obtain ⟨i1, i2, i3, i4, i5⟩ := HC.out w3 h13; clear i4 i5))
              go_ret
              exact ⟨by rw [hT.out]; rfl, hB.out.trans (HB3.out.mono (by have := hlt.out; omega))⟩
            · skip
              go_wp2_with (first | (go_at_call 42; (with_reducible refine (c1.out _).mono ?_); rintro e w2 ⟨rfl, hb2⟩; have HB2 : Hid (Below W.heap.size W w2) := hide hb2; have h12 := row_kept hb2 (by have := hlt.out; omega) H1.out; obtain ⟨j1, j2, j3, j4, j5⟩ := HC.out w2 h12; clear j4 j5) | (go_at_call 42; (with_reducible refine (c2.out _).mono ?_); rintro e w3 ⟨rfl, hb3⟩; have HB3 : Hid (Below W.heap.size W w3) := hide (HB2.out.trans (hb3.mono HB2.out.size)); have h13 := row_kept hb3 (by have := hlt.out; have := HB2.out.size; omega) h12; obtain ⟨i1, i2, i3, i4, i5⟩ := HC.out w3 h13; clear i4 i5))
              go_ret
              exact ⟨by rw [hT.out]; rfl, hB.out.trans (HB3.out.mono (by have := hlt.out; omega))⟩
            · skip
              go_wp2_with (first | (go_at_call 42; (with_reducible refine (c1.out _).mono ?_); rintro e w2 ⟨rfl, hb2⟩; have HB2 : Hid (Below W.heap.size W w2) := hide hb2; have h12 := row_kept hb2 (by have := hlt.out; omega) H1.out; obtain ⟨j1, j2, j3, j4, j5⟩ := HC.out w2 h12; clear j4 j5) | (go_at_call 42; (with_reducible refine (c2.out _).mono ?_); rintro e w3 ⟨rfl, hb3⟩; have HB3 : Hid (Below W.heap.size W w3) := hide (HB2.out.trans (hb3.mono HB2.out.size)); have h13 := row_kept hb3 (by have := hlt.out; have := HB2.out.size; omega) h12; obtain ⟨i1, i2, i3, i4, i5⟩ := HC.out w3 h13; clear i4 i5))
              go_ret
              exact ⟨by rw [hT.out]; rfl, hB.out.trans (HB3.out.mono (by have := hlt.out; omega))⟩
          · have h6i : (pp == 6) = false := by simpa using h6
            by_cases h17 : pp = 17
            · subst h17
              cases sv <;> cases dv
              · skip
                go_wp2_with (first | (go_at_call 42; (with_reducible refine (c1.out _).mono ?_); rintro e w2 ⟨rfl, hb2⟩; have HB2 : Hid (Below W.heap.size W w2) := hide hb2; have h12 := row_kept hb2 (by have := hlt.out; omega) H1.out; obtain ⟨j1, j2, j3, j4, j5⟩ := HC.out w2 h12; clear j4 j5) | (go_at_call 42; (with_reducible refine (c2.out _).mono ?_); rintro e w3 ⟨rfl, hb3⟩; have HB3 : Hid (Below W.heap.size W w3) := hide (HB2.out.trans (hb3.mono HB2.out.size)); have h13 := row_kept hb3 (by have := hlt.out; have := HB2.out.size; omega) h12; obtain ⟨i1, i2, i3, i4, i5⟩ := HC.out w3 h13; clear i4 i5))
                go_ret
                exact ⟨by rw [hT.out]; rfl, hB.out.trans (HB3.out.mono (by have := hlt.out; omega))⟩
              · skip
                go_wp2_with (first | (go_at_call 42; (with_reducible refine (c1.out _).mono ?_); rintro e w2 ⟨rfl, hb2⟩; have HB2 : Hid (Below W.heap.size W w2) := hide hb2; have h12 := row_kept hb2 (by have := hlt.out; omega) H1.out; obtain ⟨j1, j2, j3, j4, j5⟩ := HC.out w2 h12; clear j4 j5) | (go_at_call 42; (with_reducible refine (c2.out _).mono ?_); rintro e w3 ⟨rfl, hb3⟩; have HB3 : Hid (Below W.heap.size W w3) := hide (HB2.out.trans (hb3.mono HB2.out.size)); have h13 := row_kept hb3 (by have := hlt.out; have := HB2.out.size; omega) h12; obtain ⟨i1, i2, i3, i4, i5⟩ := HC.out w3 h13; clear i4 i5))
                go_ret
                exact ⟨by rw [hT.out]; rfl, hB.out.trans (HB3.out.mono (by have := hlt.out; omega))⟩
              · skip
                go_wp2_with (first | (go_at_call 42; (with_reducible refine (c1.out _).mono ?_); rintro e w2 ⟨rfl, hb2⟩; have HB2 : Hid (Below W.heap.size W w2) := hide hb2; have h12 := row_kept hb2 (by have := hlt.out; omega) H1.out; obtain ⟨j1, j2, j3, j4, j5⟩ := HC.out w2 h12; clear j4 j5) | (go_at_call 42; (with_reducible refine (c2.out _).mono ?_); rintro e w3 ⟨rfl, hb3⟩; have HB3 : Hid (Below W.heap.size W w3) := hide (HB2.out.trans (hb3.mono HB2.out.size)); have h13 := row_kept hb3 (by have := hlt.out; have := HB2.out.size; omega) h12; obtain ⟨i1, i2, i3, i4, i5⟩ := HC.out w3 h13; clear i4 i5))
                go_ret
                exact ⟨by rw [hT.out]; rfl, hB.out.trans (HB3.out.mono (by have := hlt.out; omega))⟩
              · skip
                go_wp2_with (first | (go_at_call 42; (with_reducible refine (c1.out _).mono ?_); rintro e w2 ⟨rfl, hb2⟩; have HB2 : Hid (Below W.heap.size W w2) := hide hb2; have h12 := row_kept hb2 (by have := hlt.out; omega) H1.out; obtain ⟨j1, j2, j3, j4, j5⟩ := HC.out w2 h12; clear j4 j5) | (go_at_call 42; (with_reducible refine (c2.out _).mono ?_); rintro e w3 ⟨rfl, hb3⟩; have HB3 : Hid (Below W.heap.size W w3) := hide (HB2.out.trans (hb3.mono HB2.out.size)); have h13 := row_kept hb3 (by have := hlt.out; have := HB2.out.size; omega) h12; obtain ⟨i1, i2, i3, i4, i5⟩ := HC.out w3 h13; clear i4 i5))
                go_ret
                exact ⟨by rw [hT.out]; rfl, hB.out.trans (HB3.out.mono (by have := hlt.out; omega))⟩
            · have h17i : (pp == 17) = false := by simpa using h17
              have HP := hide (show protoOk pp = false by unfold protoOk; rw [h6i, h17i]; rfl)
              cases sv <;> cases dv
              · skip
                go_wp2_with (first | (go_at_call 42; (with_reducible refine (c1.out _).mono ?_); rintro e w2 ⟨rfl, hb2⟩; have HB2 : Hid (Below W.heap.size W w2) := hide hb2; have h12 := row_kept hb2 (by have := hlt.out; omega) H1.out; obtain ⟨j1, j2, j3, j4, j5⟩ := HC.out w2 h12; clear j4 j5) | (go_at_call 42; (with_reducible refine (c2.out _).mono ?_); rintro e w3 ⟨rfl, hb3⟩; have HB3 : Hid (Below W.heap.size W w3) := hide (HB2.out.trans (hb3.mono HB2.out.size)); have h13 := row_kept hb3 (by have := hlt.out; have := HB2.out.size; omega) h12; obtain ⟨i1, i2, i3, i4, i5⟩ := HC.out w3 h13; clear i4 i5))
                go_ret
                exact ⟨by rw [hT.out]; rw [HP.out]; rfl, hB.out.trans (HB3.out.mono (by have := hlt.out; omega))⟩
              · skip
                go_wp2_with (first | (go_at_call 42; (with_reducible refine (c1.out _).mono ?_); rintro e w2 ⟨rfl, hb2⟩; have HB2 : Hid (Below W.heap.size W w2) := hide hb2; have h12 := row_kept hb2 (by have := hlt.out; omega) H1.out; obtain ⟨j1, j2, j3, j4, j5⟩ := HC.out w2 h12; clear j4 j5) | (go_at_call 42; (with_reducible refine (c2.out _).mono ?_); rintro e w3 ⟨rfl, hb3⟩; have HB3 : Hid (Below W.heap.size W w3) := hide (HB2.out.trans (hb3.mono HB2.out.size)); have h13 := row_kept hb3 (by have := hlt.out; have := HB2.out.size; omega) h12; obtain ⟨i1, i2, i3, i4, i5⟩ := HC.out w3 h13; clear i4 i5))
                go_ret
                exact ⟨by rw [hT.out]; rw [HP.out]; rfl, hB.out.trans (HB3.out.mono (by have := hlt.out; omega))⟩
              · skip
                go_wp2_with (first | (go_at_call 42; (with_reducible refine (c1.out _).mono ?_); rintro e w2 ⟨rfl, hb2⟩; have HB2 : Hid (Below W.heap.size W w2) := hide hb2; have h12 := row_kept hb2 (by have := hlt.out; omega) H1.out; obtain ⟨j1, j2, j3, j4, j5⟩ := HC.out w2 h12; clear j4 j5) | (go_at_call 42; (with_reducible refine (c2.out _).mono ?_); rintro e w3 ⟨rfl, hb3⟩; have HB3 : Hid (Below W.heap.size W w3) := hide (HB2.out.trans (hb3.mono HB2.out.size)); have h13 := row_kept hb3 (by have := hlt.out; have := HB2.out.size; omega) h12; obtain ⟨i1, i2, i3, i4, i5⟩ := HC.out w3 h13; clear i4 i5))
                go_ret
                exact ⟨by rw [hT.out]; rw [HP.out]; rfl, hB.out.trans (HB3.out.mono (by have := hlt.out; omega))⟩
              · skip
                go_wp2_with (first | (go_at_call 42; (with_reducible refine (c1.out _).mono ?_); rintro e w2 ⟨rfl, hb2⟩; have HB2 : Hid (Below W.heap.size W w2) := hide hb2; have h12 := row_kept hb2 (by have := hlt.out; omega) H1.out; obtain ⟨j1, j2, j3, j4, j5⟩ := HC.out w2 h12; clear j4 j5) | (go_at_call 42; (with_reducible refine (c2.out _).mono ?_); rintro e w3 ⟨rfl, hb3⟩; have HB3 : Hid (Below W.heap.size W w3) := hide (HB2.out.trans (hb3.mono HB2.out.size)); have h13 := row_kept hb3 (by have := hlt.out; have := HB2.out.size; omega) h12; obtain ⟨i1, i2, i3, i4, i5⟩ := HC.out w3 h13; clear i4 i5))
                go_ret
                exact ⟨by rw [hT.out]; rw [HP.out]; rfl, hB.out.trans (HB3.out.mono (by have := hlt.out; omega))⟩
  · skip
    have hq : (portOk ps && portOk pd) = false := by unfold portOk; simp [*]
    rw [hq] at hT
    clear hq
    cases R1
    · skip
      go_wp2_with (first | (go_at_call 42; (with_reducible refine (c1.out _).mono ?_); rintro e w2 ⟨rfl, hb2⟩; have HB2 : Hid (Below W.heap.size W w2) := hide hb2; have h12 := row_kept hb2 (by have := hlt.out; omega) H1.out; obtain ⟨j1, j2, j3, j4, j5⟩ := HC.out w2 h12; clear j4 j5) | (go_at_call 42; (with_reducible refine (c2.out _).mono ?_); rintro e w3 ⟨rfl, hb3⟩; have HB3 : Hid (Below W.heap.size W w3) := hide (HB2.out.trans (hb3.mono HB2.out.size)); have h13 := row_kept hb3 (by have := hlt.out; have := HB2.out.size; omega) h12; obtain ⟨i1, i2, i3, i4, i5⟩ := HC.out w3 h13; clear i4 i5))
      go_ret
      exact ⟨by rw [hT.out]; simp, hB.out.trans (HB2.out.mono (by have := hlt.out; omega))⟩
    · cases R2
      · skip
        go_wp2_with (first | (go_at_call 42; (with_reducible refine (c1.out _).mono ?_); rintro e w2 ⟨rfl, hb2⟩; have HB2 : Hid (Below W.heap.size W w2) := hide hb2; have h12 := row_kept hb2 (by have := hlt.out; omega) H1.out; obtain ⟨j1, j2, j3, j4, j5⟩ := HC.out w2 h12; clear j4 j5) | (go_at_call 42; (with_reducible refine (c2.out _).mono ?_); rintro e w3 ⟨rfl, hb3⟩; have HB3 : Hid (Below W.heap.size W w3) := hide (HB2.out.trans (hb3.mono HB2.out.size)); have h13 := row_kept hb3 (by have := hlt.out; have := HB2.out.size; omega) h12; obtain ⟨i1, i2, i3, i4, i5⟩ := HC.out w3 h13; clear i4 i5))
        go_ret
        exact ⟨by rw [hT.out]; simp, hB.out.trans (HB3.out.mono (by have := hlt.out; omega))⟩
      · by_cases h6 : pp = 6
        · subst h6
          cases sv <;> cases dv
          · skip
            go_wp2_with (first | (go_at_call 42; (with_reducible refine (c1.out _).mono ?_); rintro e w2 ⟨rfl, hb2⟩; have HB2 : Hid (Below W.heap.size W w2) := hide hb2; have h12 := row_kept hb2 (by have := hlt.out; omega) H1.out; obtain ⟨j1, j2, j3, j4, j5⟩ := HC.out w2 h12; clear j4 j5) | (go_at_call 42; (with_reducible refine (c2.out _).mono ?_); rintro e w3 ⟨rfl, hb3⟩; have HB3 : Hid (Below W.heap.size W w3) := hide (HB2.out.trans (hb3.mono HB2.out.size)); have h13 := row_kept hb3 (by have := hlt.out; have := HB2.out.size; omega) h12; obtain ⟨i1, i2, i3, i4, i5⟩ := HC.out w3 h13; clear i4 i5))
            go_ret
            exact ⟨by rw [hT.out]; rfl, hB.out.trans (HB3.out.mono (by have := hlt.out; omega))⟩
          · skip
            go_wp2_with (first | (go_at_call 42; (with_reducible refine (c1.out _).mono ?_); rintro e w2 ⟨rfl, hb2⟩; have HB2 : Hid (Below W.heap.size W w2) := hide hb2; have h12 := row_kept hb2 (by have := hlt.out; omega) H1.out; obtain ⟨j1, j2, j3, j4, j5⟩ := HC.out w2 h12; clear j4 j5) | (go_at_call 42; (with_reducible refine (c2.out _).mono ?_); rintro e w3 ⟨rfl, hb3⟩; have HB3 : Hid (Below W.heap.size W w3) := hide (HB2.out.trans (hb3.mono HB2.out.size)); have h13 := row_kept hb3 (by have := hlt.out; have := HB2.out.size; omega) h12; obtain ⟨i1, i2, i3, i4, i5⟩ := HC.out w3 h13; clear i4 i5))
            go_ret
            exact ⟨by rw [hT.out]; rfl, hB.out.trans (HB3.out.mono (by have := hlt.out; omega))⟩
          · skip
            go_wp2_with (first | (go_at_call 42; (with_reducible refine (c1.out _).mono ?_); rintro e w2 ⟨rfl, hb2⟩; have HB2 : Hid (Below W.heap.size W w2) := hide hb2; have h12 := row_kept hb2 (by have := hlt.out; omega) H1.out; obtain ⟨j1, j2, j3, j4, j5⟩ := HC.out w2 h12; clear j4 j5) | (go_at_call 42; (with_reducible refine (c2.out _).mono ?_); rintro e w3 ⟨rfl, hb3⟩; have HB3 : Hid (Below W.heap.size W w3) := hide (HB2.out.trans (hb3.mono HB2.out.size)); have h13 := row_kept hb3 (by have := hlt.out; have := HB2.out.size; omega) h12; obtain ⟨i1, i2, i3, i4, i5⟩ := HC.out w3 h13; clear i4 i5))
            go_ret
            exact ⟨by rw [hT.out]; rfl, hB.out.trans (HB3.out.mono (by have := hlt.out; omega))⟩
          · skip
            go_wp2_with (first | (go_at_call 42; (with_reducible refine (c1.out _).mono ?_); rintro e w2 ⟨rfl, hb2⟩; have HB2 : Hid (Below W.heap.size W w2) := hide hb2; have h12 := row_kept hb2 (by have := hlt.out; omega) H1.out; obtain ⟨j1, j2, j3, j4, j5⟩ := HC.out w2 h12; clear j4 j5) | (go_at_call 42; (with_reducible refine (c2.out _).mono ?_); rintro e w3 ⟨rfl, hb3⟩; have HB3 : Hid (Below W.heap.size W w3) := hide (HB2.out.trans (hb3.mono HB2.out.size)); have h13 := row_kept hb3 (by have := hlt.out; have := HB2.out.size; omega) h12; obtain ⟨i1, i2, i3, i4, i5⟩ := HC.out w3 h13; clear i4 i5))
            go_ret
            exact ⟨by rw [hT.out]; rfl, hB.out.trans (HB3.out.mono (by have := hlt.out; omega))⟩
        · have h6i : (pp == 6) = false := by simpa using h6
          by_cases h17 : pp = 17
          · subst h17
            cases sv <;> cases dv
            · skip
              go_wp2_with (first | (go_at_call 42; (with_reducible refine (c1.out _).mono ?_); rintro e w2 ⟨rfl, hb2⟩; have HB2 : Hid (Below W.heap.size W w2) := hide hb2; have h12 := row_kept hb2 (by have := hlt.out; omega) H1.out; obtain ⟨j1, j2, j3, j4, j5⟩ := HC.out w2 h12; clear j4 j5) | (go_at_call 42; (with_reducible refine (c2.out _).mono ?_); rintro e w3 ⟨rfl, hb3⟩; have HB3 : Hid (Below W.heap.size W w3) := hide (HB2.out.trans (hb3.mono HB2.out.size)); have h13 := row_kept hb3 (by have := hlt.out; have := HB2.out.size; omega) h12; obtain ⟨i1, i2, i3, i4, i5⟩ := HC.out w3 h13; clear i4 i5))
              go_ret
              exact ⟨by rw [hT.out]; rfl, hB.out.trans (HB3.out.mono (by have := hlt.out; omega))⟩
            · skip
              go_wp2_with (first | (go_at_call 42; (with_reducible refine (c1.out _).mono ?_); rintro e w2 ⟨rfl, hb2⟩; have HB2 : Hid (Below W.heap.size W w2) := hide hb2; have h12 := row_kept hb2 (by have := hlt.out; omega) H1.out; obtain ⟨j1, j2, j3, j4, j5⟩ := HC.out w2 h12; clear j4 j5) | (go_at_call 42; (with_reducible refine (c2.out _).mono ?_); rintro e w3 ⟨rfl, hb3⟩; have HB3 : Hid (Below W.heap.size W w3) := hide (HB2.out.trans (hb3.mono HB2.out.size)); have h13 := row_kept hb3 (by have := hlt.out; have := HB2.out.size; omega) h12; obtain ⟨i1, i2, i3, i4, i5⟩ := HC.out w3 h13; clear i4 i5))
              go_ret
              exact ⟨by rw [hT.out]; rfl, hB.out.trans (HB3.out.mono (by have := hlt.out; omega))⟩
            · skip
              go_wp2_with (first | (go_at_call 42; (with_reducible refine (c1.out _).mono ?_); rintro e w2 ⟨rfl, hb2⟩; have HB2 : Hid (Below W.heap.size W w2) := hide hb2; have h12 := row_kept hb2 (by have := hlt.out; omega) H1.out; obtain ⟨j1, j2, j3, j4, j5⟩ := HC.out w2 h12; clear j4 j5) | (go_at_call 42; (with_reducible refine (c2.out _).mono ?_); rintro e w3 ⟨rfl, hb3⟩; have HB3 : Hid (Below W.heap.size W w3) := hide (HB2.out.trans (hb3.mono HB2.out.size)); have h13 := row_kept hb3 (by have := hlt.out; have := HB2.out.size; omega) h12; obtain ⟨i1, i2, i3, i4, i5⟩ := HC.out w3 h13; clear i4 i5))
              go_ret
              exact ⟨by rw [hT.out]; rfl, hB.out.trans (HB3.out.mono (by have := hlt.out; omega))⟩
            · skip
              go_wp2_with (first | (go_at_call 42; (with_reducible refine (c1.out _).mono ?_); rintro e w2 ⟨rfl, hb2⟩; have HB2 : Hid (Below W.heap.size W w2) := hide hb2; have h12 := row_kept hb2 (by have := hlt.out; omega) H1.out; obtain ⟨j1, j2, j3, j4, j5⟩ := HC.out w2 h12; clear j4 j5) | (go_at_call 42; (with_reducible refine (c2.out _).mono ?_); rintro e w3 ⟨rfl, hb3⟩; have HB3 : Hid (Below W.heap.size W w3) := hide (HB2.out.trans (hb3.mono HB2.out.size)); have h13 := row_kept hb3 (by have := hlt.out; have := HB2.out.size; omega) h12; obtain ⟨i1, i2, i3, i4, i5⟩ := HC.out w3 h13; clear i4 i5))
              go_ret
              exact ⟨by rw [hT.out]; rfl, hB.out.trans (HB3.out.mono (by have := hlt.out; omega))⟩
          · have h17i : (pp == 17) = false := by simpa using h17
            have HP := hide (show protoOk pp = false by unfold protoOk; rw [h6i, h17i]; rfl)
            cases sv <;> cases dv
            · skip
              go_wp2_with (first | (go_at_call 42; (with_reducible refine (c1.out _).mono ?_); rintro e w2 ⟨rfl, hb2⟩; have HB2 : Hid (Below W.heap.size W w2) := hide hb2; have h12 := row_kept hb2 (by have := hlt.out; omega) H1.out; obtain ⟨j1, j2, j3, j4, j5⟩ := HC.out w2 h12; clear j4 j5) | (go_at_call 42; (with_reducible refine (c2.out _).mono ?_); rintro e w3 ⟨rfl, hb3⟩; have HB3 : Hid (Below W.heap.size W w3) := hide (HB2.out.trans (hb3.mono HB2.out.size)); have h13 := row_kept hb3 (by have := hlt.out; have := HB2.out.size; omega) h12; obtain ⟨i1, i2, i3, i4, i5⟩ := HC.out w3 h13; clear i4 i5))
              go_ret
              exact ⟨by rw [hT.out]; rw [HP.out]; rfl, hB.out.trans (HB3.out.mono (by have := hlt.out; omega))⟩
            · skip
              go_wp2_with (first | (go_at_call 42; (with_reducible refine (c1.out _).mono ?_); rintro e w2 ⟨rfl, hb2⟩; have HB2 : Hid (Below W.heap.size W w2) := hide hb2; have h12 := row_kept hb2 (by have := hlt.out; omega) H1.out; obtain ⟨j1, j2, j3, j4, j5⟩ := HC.out w2 h12; clear j4 j5) | (go_at_call 42; (with_reducible refine (c2.out _).mono ?_); rintro e w3 ⟨rfl, hb3⟩; have HB3 : Hid (Below W.heap.size W w3) := hide (HB2.out.trans (hb3.mono HB2.out.size)); have h13 := row_kept hb3 (by have := hlt.out; have := HB2.out.size; omega) h12; obtain ⟨i1, i2, i3, i4, i5⟩ := HC.out w3 h13; clear i4 i5))
              go_ret
              exact ⟨by rw [hT.out]; rw [HP.out]; rfl, hB.out.trans (HB3.out.mono (by have := hlt.out; omega))⟩
            · skip
              go_wp2_with (first | (go_at_call 42; (with_reducible refine (c1.out _).mono ?_); rintro e w2 ⟨rfl, hb2⟩; have HB2 : Hid (Below W.heap.size W w2) := hide hb2; have h12 := row_kept hb2 (by have := hlt.out; omega) H1.out; obtain ⟨j1, j2, j3, j4, j5⟩ := HC.out w2 h12; clear j4 j5) | (go_at_call 42; (with_reducible refine (c2.out _).mono ?_); rintro e w3 ⟨rfl, hb3⟩; have HB3 : Hid (Below W.heap.size W w3) := hide (HB2.out.trans (hb3.mono HB2.out.size)); have h13 := row_kept hb3 (by have := hlt.out; have := HB2.out.size; omega) h12; obtain ⟨i1, i2, i3, i4, i5⟩ := HC.out w3 h13; clear i4 i5))
              go_ret
              exact ⟨by rw [hT.out]; rw [HP.out]; rfl, hB.out.trans (HB3.out.mono (by have := hlt.out; omega))⟩
            · skip
              go_wp2_with (first | (go_at_call 42; (with_reducible refine (c1.out _).mono ?_); rintro e w2 ⟨rfl, hb2⟩; have HB2 : Hid (Below W.heap.size W w2) := hide hb2; have h12 := row_kept hb2 (by have := hlt.out; omega) H1.out; obtain ⟨j1, j2, j3, j4, j5⟩ := HC.out w2 h12; clear j4 j5) | (go_at_call 42; (with_reducible refine (c2.out _).mono ?_); rintro e w3 ⟨rfl, hb3⟩; have HB3 : Hid (Below W.heap.size W w3) := hide (HB2.out.trans (hb3.mono HB2.out.size)); have h13 := row_kept hb3 (by have := hlt.out; have := HB2.out.size; omega) h12; obtain ⟨i1, i2, i3, i4, i5⟩ := HC.out w3 h13; clear i4 i5))
              go_ret
              exact ⟨by rw [hT.out]; rw [HP.out]; rfl, hB.out.trans (HB3.out.mono (by have := hlt.out; omega))⟩
end Go.Proofs.Ytcfckhdohcaffaa
