/-
  The walk of the statement AddrLess: true; nothing that was there is written.
-/
import Derived.Test.YtmhoedbhfaocjabAdz
namespace Go.Proofs.Ytmhoedbhfaocjab
open Go.RowKit
attribute [local go_sem ↓] exec_span exec_put exec_build heap_alloc_new heap_old
attribute [local go_sem] spanQ_ptr spanC_some heap_of_drew heap_of_drewN rs_arr rs_ad putAt_ptr putOk_ptr oldOk_some built_none World.setRow_alloc_new
set_option maxRecDepth 100000
set_option linter.unusedVariables false
set_option linter.unusedSimpArgs false

theorem span_ad {w : World} {b : Nat} {X : Array Value} {t : TypeId} {fr : Nat × Nat} {v : Bool} {l : List UInt8} (h : AdV X v l) (hg : w.heap[b]? = some (.cells X t fr)) : spanQ Try.prog 25 w (.pointer (some ⟨b, 0, none⟩)) = some X := by
  rw [spanQ_ptr, hg, rs_ad, spanC_some, if_pos (by rw [h.size]; decide), h.x0]
theorem yields_row {P : Program} {ops : Array Oper} {S : World → Prop} {o : Oper} {a : Act} (hw : Region.wanted o (yielded ops a.tmps) = true) (t : TypeId) (x : Operand) (ho : o.op = .load t x) (p : Value) (hx : a.eval x = p) (cs : Array Value) (h : ∀ w, S w → spanQ P t w p = some cs) : YieldsIf P ops S o (.agg cs) a :=
  .inl ⟨hw, fun w hS => by
    subst hx
    unfold execOp
    simp only [ho, Sem.run_bind, run_span (h w hS), Result.andThen_ok, Sem.run_pure]⟩

theorem rows3 {B : Nat} {W w2 : World} {g1 g2 g3 : Nat} {o1 o2 o3 : Obj} (hb : Below B W w2) (hB : g1 < B ∧ g2 < B ∧ g3 < B) (h : W.heap[g1]? = some o1 ∧ W.heap[g2]? = some o2 ∧ W.heap[g3]? = some o3) : w2.heap[g1]? = some o1 ∧ w2.heap[g2]? = some o2 ∧ w2.heap[g3]? = some o3 :=
  ⟨row_kept hb hB.1 h.1, row_kept hb hB.2.1 h.2.1, row_kept hb hB.2.2 h.2.2⟩

set_option maxHeartbeats 4000000 in
theorem addrLess_any (w : World) (X Y Z : Array Value) (v v' v'' : Bool) (l l' l'' : List UInt8) (h : AdV X v l) (h' : AdV Y v' l') (h'' : AdV Z v'' l'') :
    Calls Try.prog 4 #[.agg X, .agg Y, .agg Z] w fun e w' => e = .returned (.bool true) ∧ Below w.heap.size w w' := by
  go_enter Try.func4, Try.ntmps4
  have hxs := h.size
  have hys := h'.size
  have hzs := h''.size
  have hxr := h.x0
  have hyr := h'.x0
  have hzr := h''.x0
  obtain ⟨W, hW, h1, h2, h3, hz, hb⟩ := three_blocks w (.cells X 25) (.cells Y 25) (.cells Z 25)
  have hB := hide hb
  have hlt : Hid (W.heap.size = w.heap.size + 3) := hide hz
  have HH := hide (And.intro h1 (And.intro h2 h3))
  obtain ⟨Lab, hLab⟩ : ∃ L, L = lessA v l v' l' := ⟨_, rfl⟩
  obtain ⟨Lba, hLba⟩ : ∃ L, L = lessA v' l' v l := ⟨_, rfl⟩
  obtain ⟨Lbc, hLbc⟩ : ∃ L, L = lessA v' l' v'' l'' := ⟨_, rfl⟩
  obtain ⟨Lac, hLac⟩ : ∃ L, L = lessA v l v'' l'' := ⟨_, rfl⟩
  have cab := hide (fun W => less_any W X Y v v' l l' h h')
  have cba := hide (fun W => less_any W Y X v' v l' l h' h)
  have cbc := hide (fun W => less_any W Y Z v' v'' l' l'' h' h'')
  have cac := hide (fun W => less_any W X Z v v'' l l'' h h'')
  have caa := hide (fun W => less_any W X X v v l l h h)
  have ccmp := hide (fun W => cmp_any W X Y v v' l l' h h')
  rw [lessA_irrefl] at caa
  rw [← hLab] at cab
  rw [← hLba] at cba
  rw [← hLbc] at cbc
  rw [← hLac] at cac
  have HLab := hide hLab
  have hne := fun W => neq_ad W X Y v v' l l' h h'
  have htot := hide (fun hd : ¬ (v = v' ∧ l = l') => lessA_total (v := v) (v' := v') (l := l) (l' := l') (by rw [h.len, h'.len]) hd)
  have htra := hide (fun (e1 : Lab = true) (e2 : Lbc = true) => show Lac = true by rw [hLac]; exact lessA_trans (by rw [← hLab]; exact e1) (by rw [← hLbc]; exact e2))
  have hT := hide (fun hd : ¬ (v = v' ∧ l = l') => show Lab = !Lba by rw [hLab, hLba]; exact htot.out hd)
  have hkn := hide (fun W => knownA_any W)
  obtain ⟨EQ, hEQ⟩ : ∃ EQ, EQ = (v == v' && l == l') := ⟨_, rfl⟩
  rw [← hEQ] at hne
  have HEQ := hide hEQ
  clear hz hb hLab hLba hLbc hLac htot h1 h2 h3 hEQ
  cases Lab
  · cases EQ
    · obtain rfl : Lba = true := by
        have hd : ¬ (v = v' ∧ l = l') := fun e => by have := HEQ.out; rw [e.1, e.2] at this; simp at this
        have := hT.out hd
        cases Lba <;> first | rfl | exact absurd this (by decide)
      go_wp2
      go_region_held3 (fun w' => w'.heap[w.heap.size]? = some (.cells X 25 (0, 0)) ∧ w'.heap[w.heap.size + 1]? = some (.cells Y 25 (0, 0)) ∧ w'.heap[w.heap.size + 1 + 1]? = some (.cells Z 25 (0, 0)))
        (first | exact HH.out | assumption)
        (first
          | (go_at_call 22; (with_reducible refine (cab.out _).mono ?_); rintro e w2 ⟨rfl, hb2⟩; have HB2 : Hid (Below W.heap.size W w2) := hide (below_undrew' hb2); have HR2 := rows3 HB2.out (by have := hlt.out; omega) HH.out)
          | (go_at_call 23; (with_reducible refine (ccmp.out _).mono ?_); rintro e w3 ⟨n, rfl, hn, hb3⟩; have hnd := hn.1.trans HLab.out.symm; have HB3 : Hid (Below W.heap.size W w3) := hide (HB2.out.trans ((hb3).mono HB2.out.size)); have HR3 := rows3 HB3.out (by have := hlt.out; omega) HH.out)
          | (go_at_call 22; (with_reducible refine (caa.out _).mono ?_); rintro e w4 ⟨rfl, hb4⟩; have HB4 : Hid (Below W.heap.size W w4) := hide (HB3.out.trans ((hb4).mono HB3.out.size)); have HR4 := rows3 HB4.out (by have := hlt.out; omega) HH.out))
      obtain ⟨h14, h24, h34⟩ := HR4
      have HR4' := hide (And.intro h14 (And.intro h24 h34))
      clear HR2 HR3 hn hnd hb2 hb3 hb4
      go_wp2
      go_region_held3 (fun w' => w'.heap[w.heap.size]? = some (.cells X 25 (0, 0)) ∧ w'.heap[w.heap.size + 1]? = some (.cells Y 25 (0, 0)) ∧ w'.heap[w.heap.size + 1 + 1]? = some (.cells Z 25 (0, 0)))
        (first | exact HR4'.out | assumption)
        (first
          | (go_at_call 22; (with_reducible refine (cab.out _).mono ?_); rintro e w5 ⟨rfl, hb5⟩; have HB5 : Hid (Below W.heap.size W w5) := hide (HB4.out.trans ((below_undrew' hb5).mono HB4.out.size)); have HR5 := rows3 HB5.out (by have := hlt.out; omega) HH.out)
          | (go_at_call 22; (with_reducible refine (cba.out _).mono ?_); rintro e w6 ⟨rfl, hb6⟩; have HB6 : Hid (Below W.heap.size W w6) := hide (HB5.out.trans ((hb6).mono HB5.out.size)); have HR6 := rows3 HB6.out (by have := hlt.out; omega) HH.out))
      obtain ⟨h16, h26, h36⟩ := HR6
      clear HR5 hb5 hb6
      go_wp2_with fail
      refine (cab.out _).mono ?_
      rintro e w7 ⟨rfl, hb7⟩
      have HB7 : Hid (Below W.heap.size W w7) := hide (HB6.out.trans (hb7.mono HB6.out.size))
      obtain ⟨h17, h27, h37⟩ := rows3 HB7.out (by have := hlt.out; omega) HH.out
      clear hb7
      go_wp2_with fail
      refine (hkn.out _).mono ?_
      rintro e wk ⟨rfl, hbk⟩
      dsimp only
      go_wp2
      go_ret
      exact ⟨rfl, (hB.out.trans (HB7.out.mono (by have := hlt.out; omega))).trans (hbk.mono (by have := HB7.out.size; have := hlt.out; omega))⟩
    · go_wp2
      go_region_held3 (fun w' => w'.heap[w.heap.size]? = some (.cells X 25 (0, 0)) ∧ w'.heap[w.heap.size + 1]? = some (.cells Y 25 (0, 0)) ∧ w'.heap[w.heap.size + 1 + 1]? = some (.cells Z 25 (0, 0)))
        (first | exact HH.out | assumption)
        (first
          | (go_at_call 22; (with_reducible refine (cab.out _).mono ?_); rintro e w2 ⟨rfl, hb2⟩; have HB2 : Hid (Below W.heap.size W w2) := hide (below_undrew' hb2); have HR2 := rows3 HB2.out (by have := hlt.out; omega) HH.out)
          | (go_at_call 23; (with_reducible refine (ccmp.out _).mono ?_); rintro e w3 ⟨n, rfl, hn, hb3⟩; have hnd := hn.1.trans HLab.out.symm; have HB3 : Hid (Below W.heap.size W w3) := hide (HB2.out.trans ((hb3).mono HB2.out.size)); have HR3 := rows3 HB3.out (by have := hlt.out; omega) HH.out)
          | (go_at_call 22; (with_reducible refine (caa.out _).mono ?_); rintro e w4 ⟨rfl, hb4⟩; have HB4 : Hid (Below W.heap.size W w4) := hide (HB3.out.trans ((hb4).mono HB3.out.size)); have HR4 := rows3 HB4.out (by have := hlt.out; omega) HH.out))
      obtain ⟨h14, h24, h34⟩ := HR4
      have HR4' := hide (And.intro h14 (And.intro h24 h34))
      clear HR2 HR3 hn hnd hb2 hb3 hb4
      go_wp2
      refine wp_region_held_drew (S := (fun w' => w'.heap[w.heap.size]? = some (.cells X 25 (0, 0)) ∧ w'.heap[w.heap.size + 1]? = some (.cells Y 25 (0, 0)) ∧ w'.heap[w.heap.size + 1 + 1]? = some (.cells Z 25 (0, 0)))) (by kernel_rfl) ?_ (fun hHeld => ?_)
      · exact HR4'.out
      refine wpAnyH_take (i := 0) (oi := ⟨some 20, _, _, _, _, _⟩) (v := .agg X) rfl (by kernel_rfl) (by kernel_rfl) (by kernel_rfl) (fun _ _ _ h => h) (yields_row (by rfl) 25 (.tmp 3) (by rfl) _ (by rfl) X (fun w hw => span_ad h hw.1)) hHeld ?_
      simp only [Act.put, List.getElem_toArray, List.getElem_cons_zero, List.getElem_cons_succ, List.setIfInBounds_toArray, List.set_cons_zero, List.set_cons_succ]
      refine wpAnyH_take (i := 1) (oi := ⟨some 21, _, _, _, _, _⟩) (v := .agg Y) rfl (by kernel_rfl) (by kernel_rfl) (by kernel_rfl) (fun _ _ _ h => h) (yields_row (by rfl) 25 (.tmp 4) (by rfl) _ (by rfl) Y (fun w hw => span_ad h' hw.2.1)) hHeld ?_
      simp only [Act.put, List.setIfInBounds_toArray, List.set_cons_zero, List.set_cons_succ]
      refine wpAnyH_take (i := 2) (oi := ⟨some 22, _, _, _, _, _⟩) (v := .bool false) rfl (by kernel_rfl) (by kernel_rfl) (by kernel_rfl) (fun _ _ _ h => h) (Or.inl ⟨by rfl, fun w hw => by (clear hw; go_simp; try rfl)⟩) hHeld ?_
      simp only [Act.put, List.setIfInBounds_toArray, List.set_cons_zero, List.set_cons_succ]
      refine wpAnyH_take (i := 3) (oi := ⟨some 23, _, _, _, _, _⟩) (v := .bool false) rfl (by kernel_rfl) (by kernel_rfl) (by kernel_rfl) (fun _ _ _ h => h) (Or.inl ⟨by rfl, fun w hw => by (clear hw; go_simp; try rfl)⟩) hHeld ?_
      simp only [Act.put, List.setIfInBounds_toArray, List.set_cons_zero, List.set_cons_succ]
      refine wpAnyH_take (i := 4) (oi := ⟨some 24, _, _, _, _, _⟩) (v := undef) rfl (by kernel_rfl) (by kernel_rfl) (by kernel_rfl) (fun _ _ _ h => h) (Or.inr ⟨by rfl, rfl⟩) hHeld ?_
      simp only [Act.put, List.setIfInBounds_toArray, List.set_cons_zero, List.set_cons_succ]
      refine wpAnyH_take (i := 5) (oi := ⟨some 25, _, _, _, _, _⟩) (v := undef) rfl (by kernel_rfl) (by kernel_rfl) (by kernel_rfl) (fun _ _ _ h => h) (Or.inr ⟨by rfl, rfl⟩) hHeld ?_
      simp only [Act.put, List.setIfInBounds_toArray, List.set_cons_zero, List.set_cons_succ]
      refine wpAnyH_take (i := 6) (oi := ⟨some 26, _, _, _, _, _⟩) (v := undef) rfl (by kernel_rfl) (by kernel_rfl) (by kernel_rfl) (fun _ _ _ h => h) (Or.inr ⟨by rfl, rfl⟩) hHeld ?_
      simp only [Act.put, List.setIfInBounds_toArray, List.set_cons_zero, List.set_cons_succ]
      refine wpAnyH_take (i := 7) (oi := ⟨some 27, _, _, _, _, _⟩) (v := undef) rfl (by kernel_rfl) (by kernel_rfl) (by kernel_rfl) (fun _ _ _ h => h) (Or.inr ⟨by rfl, rfl⟩) hHeld ?_
      simp only [Act.put, List.setIfInBounds_toArray, List.set_cons_zero, List.set_cons_succ]
      refine wpAnyH_take (i := 8) (oi := ⟨some 28, _, _, _, _, _⟩) (v := undef) rfl (by kernel_rfl) (by kernel_rfl) (by kernel_rfl) (fun _ _ _ h => h) (Or.inr ⟨by rfl, rfl⟩) hHeld ?_
      simp only [Act.put, List.setIfInBounds_toArray, List.set_cons_zero, List.set_cons_succ]
      refine wpAnyH_take (i := 9) (oi := ⟨some 29, _, _, _, _, _⟩) (v := undef) rfl (by kernel_rfl) (by kernel_rfl) (by kernel_rfl) (fun _ _ _ h => h) (Or.inr ⟨by rfl, rfl⟩) hHeld ?_
      simp only [Act.put, List.setIfInBounds_toArray, List.set_cons_zero, List.set_cons_succ]
      refine wpAnyH_take (i := 10) (oi := ⟨some 30, _, _, _, _, _⟩) (v := undef) rfl (by kernel_rfl) (by kernel_rfl) (by kernel_rfl) (fun _ _ _ h => h) (Or.inr ⟨by rfl, rfl⟩) hHeld ?_
      simp only [Act.put, List.setIfInBounds_toArray, List.set_cons_zero, List.set_cons_succ]
      refine wpAnyH_take (i := 11) (oi := ⟨some 31, _, _, _, _, _⟩) (v := .bool false) rfl (by kernel_rfl) (by kernel_rfl) (by kernel_rfl) (fun _ _ _ h => h) (Or.inl ⟨by rfl, fun w hw => by (clear hw; go_simp; try rfl)⟩) hHeld ?_
      simp only [Act.put, List.setIfInBounds_toArray, List.set_cons_zero, List.set_cons_succ]
      refine wpAnyH_done (by kernel_rfl) ?_ _
      have HB6 : Hid (Below W.heap.size W w4.drew) := hide (HB4.out.drew)
      obtain ⟨w6, hw6⟩ : ∃ w6, w6 = w4.drew := ⟨_, rfl⟩
      rw [← hw6] at HB6 ⊢
      obtain ⟨h16, h26, h36⟩ := rows3 HB6.out (by have := hlt.out; omega) HH.out
      clear hw6
      go_wp2_with fail
      refine (cab.out _).mono ?_
      rintro e w7 ⟨rfl, hb7⟩
      have HB7 : Hid (Below W.heap.size W w7) := hide (HB6.out.trans (hb7.mono HB6.out.size))
      obtain ⟨h17, h27, h37⟩ := rows3 HB7.out (by have := hlt.out; omega) HH.out
      clear hb7
      go_wp2_with fail
      refine (hkn.out _).mono ?_
      rintro e wk ⟨rfl, hbk⟩
      dsimp only
      go_wp2
      go_ret
      exact ⟨rfl, (hB.out.trans (HB7.out.mono (by have := hlt.out; omega))).trans (hbk.mono (by have := HB7.out.size; have := hlt.out; omega))⟩
  · cases EQ
    · obtain rfl : Lba = false := by
        have hd : ¬ (v = v' ∧ l = l') := fun e => by have := HEQ.out; rw [e.1, e.2] at this; simp at this
        have := hT.out hd
        cases Lba <;> first | rfl | exact absurd this (by decide)
      go_wp2
      go_region_held3 (fun w' => w'.heap[w.heap.size]? = some (.cells X 25 (0, 0)) ∧ w'.heap[w.heap.size + 1]? = some (.cells Y 25 (0, 0)) ∧ w'.heap[w.heap.size + 1 + 1]? = some (.cells Z 25 (0, 0)))
        (first | exact HH.out | assumption)
        (first
          | (go_at_call 22; (with_reducible refine (cab.out _).mono ?_); rintro e w2 ⟨rfl, hb2⟩; have HB2 : Hid (Below W.heap.size W w2) := hide (below_undrew' hb2); have HR2 := rows3 HB2.out (by have := hlt.out; omega) HH.out)
          | (go_at_call 23; (with_reducible refine (ccmp.out _).mono ?_); rintro e w3 ⟨n, rfl, hn, hb3⟩; have hnd := hn.1.trans HLab.out.symm; have HB3 : Hid (Below W.heap.size W w3) := hide (HB2.out.trans ((hb3).mono HB2.out.size)); have HR3 := rows3 HB3.out (by have := hlt.out; omega) HH.out)
          | (go_at_call 22; (with_reducible refine (caa.out _).mono ?_); rintro e w4 ⟨rfl, hb4⟩; have HB4 : Hid (Below W.heap.size W w4) := hide (HB3.out.trans ((hb4).mono HB3.out.size)); have HR4 := rows3 HB4.out (by have := hlt.out; omega) HH.out))
      obtain ⟨h14, h24, h34⟩ := HR4
      have HR4' := hide (And.intro h14 (And.intro h24 h34))
      clear HR2 HR3 hn hnd hb2 hb3 hb4
      go_wp2
      go_region_held3 (fun w' => w'.heap[w.heap.size]? = some (.cells X 25 (0, 0)) ∧ w'.heap[w.heap.size + 1]? = some (.cells Y 25 (0, 0)) ∧ w'.heap[w.heap.size + 1 + 1]? = some (.cells Z 25 (0, 0)))
        (first | exact HR4'.out | assumption)
        (first
          | (go_at_call 22; (with_reducible refine (cab.out _).mono ?_); rintro e w5 ⟨rfl, hb5⟩; have HB5 : Hid (Below W.heap.size W w5) := hide (HB4.out.trans ((below_undrew' hb5).mono HB4.out.size)); have HR5 := rows3 HB5.out (by have := hlt.out; omega) HH.out)
          | (go_at_call 22; (with_reducible refine (cba.out _).mono ?_); rintro e w6 ⟨rfl, hb6⟩; have HB6 : Hid (Below W.heap.size W w6) := hide (HB5.out.trans ((hb6).mono HB5.out.size)); have HR6 := rows3 HB6.out (by have := hlt.out; omega) HH.out))
      obtain ⟨h16, h26, h36⟩ := HR6
      clear HR5 hb5 hb6
      go_wp2_with fail
      refine (cab.out _).mono ?_
      rintro e w7 ⟨rfl, hb7⟩
      have HB7 : Hid (Below W.heap.size W w7) := hide (HB6.out.trans (hb7.mono HB6.out.size))
      obtain ⟨h17, h27, h37⟩ := rows3 HB7.out (by have := hlt.out; omega) HH.out
      clear hb7
      go_wp2_with fail
      refine (cbc.out _).mono ?_
      rintro e w8 ⟨rfl, hb8⟩
      have HB8 : Hid (Below W.heap.size W w8) := hide (HB7.out.trans (hb8.mono HB7.out.size))
      obtain ⟨h18, h28, h38⟩ := rows3 HB8.out (by have := hlt.out; omega) HH.out
      clear hb8
      cases Lbc
      · skip
        go_wp2_with fail
        refine (hkn.out _).mono ?_
        rintro e wk ⟨rfl, hbk⟩
        dsimp only
        go_wp2
        go_ret
        exact ⟨rfl, (hB.out.trans (HB8.out.mono (by have := hlt.out; omega))).trans (hbk.mono (by have := HB8.out.size; have := hlt.out; omega))⟩
      · obtain rfl : Lac = true := by have := htra.out; simpa using this
        go_wp2_with fail
        refine (cac.out _).mono ?_
        rintro e w9 ⟨rfl, hb9⟩
        have HB9 : Hid (Below W.heap.size W w9) := hide (HB8.out.trans (hb9.mono HB8.out.size))
        obtain ⟨h19, h29, h39⟩ := rows3 HB9.out (by have := hlt.out; omega) HH.out
        clear hb9
        go_wp2_with fail
        refine (hkn.out _).mono ?_
        rintro e wk ⟨rfl, hbk⟩
        dsimp only
        go_wp2
        go_ret
        exact ⟨rfl, (hB.out.trans (HB9.out.mono (by have := hlt.out; omega))).trans (hbk.mono (by have := HB9.out.size; have := hlt.out; omega))⟩
    · go_wp2
      go_region_held3 (fun w' => w'.heap[w.heap.size]? = some (.cells X 25 (0, 0)) ∧ w'.heap[w.heap.size + 1]? = some (.cells Y 25 (0, 0)) ∧ w'.heap[w.heap.size + 1 + 1]? = some (.cells Z 25 (0, 0)))
        (first | exact HH.out | assumption)
        (first
          | (go_at_call 22; (with_reducible refine (cab.out _).mono ?_); rintro e w2 ⟨rfl, hb2⟩; have HB2 : Hid (Below W.heap.size W w2) := hide (below_undrew' hb2); have HR2 := rows3 HB2.out (by have := hlt.out; omega) HH.out)
          | (go_at_call 23; (with_reducible refine (ccmp.out _).mono ?_); rintro e w3 ⟨n, rfl, hn, hb3⟩; have hnd := hn.1.trans HLab.out.symm; have HB3 : Hid (Below W.heap.size W w3) := hide (HB2.out.trans ((hb3).mono HB2.out.size)); have HR3 := rows3 HB3.out (by have := hlt.out; omega) HH.out)
          | (go_at_call 22; (with_reducible refine (caa.out _).mono ?_); rintro e w4 ⟨rfl, hb4⟩; have HB4 : Hid (Below W.heap.size W w4) := hide (HB3.out.trans ((hb4).mono HB3.out.size)); have HR4 := rows3 HB4.out (by have := hlt.out; omega) HH.out))
      obtain ⟨h14, h24, h34⟩ := HR4
      have HR4' := hide (And.intro h14 (And.intro h24 h34))
      clear HR2 HR3 hn hnd hb2 hb3 hb4
      go_wp2
      refine wp_region_held_drew (S := (fun w' => w'.heap[w.heap.size]? = some (.cells X 25 (0, 0)) ∧ w'.heap[w.heap.size + 1]? = some (.cells Y 25 (0, 0)) ∧ w'.heap[w.heap.size + 1 + 1]? = some (.cells Z 25 (0, 0)))) (by kernel_rfl) ?_ (fun hHeld => ?_)
      · exact HR4'.out
      refine wpAnyH_take (i := 0) (oi := ⟨some 20, _, _, _, _, _⟩) (v := .agg X) rfl (by kernel_rfl) (by kernel_rfl) (by kernel_rfl) (fun _ _ _ h => h) (yields_row (by rfl) 25 (.tmp 3) (by rfl) _ (by rfl) X (fun w hw => span_ad h hw.1)) hHeld ?_
      simp only [Act.put, List.getElem_toArray, List.getElem_cons_zero, List.getElem_cons_succ, List.setIfInBounds_toArray, List.set_cons_zero, List.set_cons_succ]
      refine wpAnyH_take (i := 1) (oi := ⟨some 21, _, _, _, _, _⟩) (v := .agg Y) rfl (by kernel_rfl) (by kernel_rfl) (by kernel_rfl) (fun _ _ _ h => h) (yields_row (by rfl) 25 (.tmp 4) (by rfl) _ (by rfl) Y (fun w hw => span_ad h' hw.2.1)) hHeld ?_
      simp only [Act.put, List.setIfInBounds_toArray, List.set_cons_zero, List.set_cons_succ]
      refine wpAnyH_take (i := 2) (oi := ⟨some 22, _, _, _, _, _⟩) (v := .bool false) rfl (by kernel_rfl) (by kernel_rfl) (by kernel_rfl) (fun _ _ _ h => h) (Or.inl ⟨by rfl, fun w hw => by (clear hw; go_simp; try rfl)⟩) hHeld ?_
      simp only [Act.put, List.setIfInBounds_toArray, List.set_cons_zero, List.set_cons_succ]
      refine wpAnyH_take (i := 3) (oi := ⟨some 23, _, _, _, _, _⟩) (v := .bool false) rfl (by kernel_rfl) (by kernel_rfl) (by kernel_rfl) (fun _ _ _ h => h) (Or.inl ⟨by rfl, fun w hw => by (clear hw; go_simp; try rfl)⟩) hHeld ?_
      simp only [Act.put, List.setIfInBounds_toArray, List.set_cons_zero, List.set_cons_succ]
      refine wpAnyH_take (i := 4) (oi := ⟨some 24, _, _, _, _, _⟩) (v := undef) rfl (by kernel_rfl) (by kernel_rfl) (by kernel_rfl) (fun _ _ _ h => h) (Or.inr ⟨by rfl, rfl⟩) hHeld ?_
      simp only [Act.put, List.setIfInBounds_toArray, List.set_cons_zero, List.set_cons_succ]
      refine wpAnyH_take (i := 5) (oi := ⟨some 25, _, _, _, _, _⟩) (v := undef) rfl (by kernel_rfl) (by kernel_rfl) (by kernel_rfl) (fun _ _ _ h => h) (Or.inr ⟨by rfl, rfl⟩) hHeld ?_
      simp only [Act.put, List.setIfInBounds_toArray, List.set_cons_zero, List.set_cons_succ]
      refine wpAnyH_take (i := 6) (oi := ⟨some 26, _, _, _, _, _⟩) (v := undef) rfl (by kernel_rfl) (by kernel_rfl) (by kernel_rfl) (fun _ _ _ h => h) (Or.inr ⟨by rfl, rfl⟩) hHeld ?_
      simp only [Act.put, List.setIfInBounds_toArray, List.set_cons_zero, List.set_cons_succ]
      refine wpAnyH_take (i := 7) (oi := ⟨some 27, _, _, _, _, _⟩) (v := undef) rfl (by kernel_rfl) (by kernel_rfl) (by kernel_rfl) (fun _ _ _ h => h) (Or.inr ⟨by rfl, rfl⟩) hHeld ?_
      simp only [Act.put, List.setIfInBounds_toArray, List.set_cons_zero, List.set_cons_succ]
      refine wpAnyH_take (i := 8) (oi := ⟨some 28, _, _, _, _, _⟩) (v := undef) rfl (by kernel_rfl) (by kernel_rfl) (by kernel_rfl) (fun _ _ _ h => h) (Or.inr ⟨by rfl, rfl⟩) hHeld ?_
      simp only [Act.put, List.setIfInBounds_toArray, List.set_cons_zero, List.set_cons_succ]
      refine wpAnyH_take (i := 9) (oi := ⟨some 29, _, _, _, _, _⟩) (v := undef) rfl (by kernel_rfl) (by kernel_rfl) (by kernel_rfl) (fun _ _ _ h => h) (Or.inr ⟨by rfl, rfl⟩) hHeld ?_
      simp only [Act.put, List.setIfInBounds_toArray, List.set_cons_zero, List.set_cons_succ]
      refine wpAnyH_take (i := 10) (oi := ⟨some 30, _, _, _, _, _⟩) (v := undef) rfl (by kernel_rfl) (by kernel_rfl) (by kernel_rfl) (fun _ _ _ h => h) (Or.inr ⟨by rfl, rfl⟩) hHeld ?_
      simp only [Act.put, List.setIfInBounds_toArray, List.set_cons_zero, List.set_cons_succ]
      refine wpAnyH_take (i := 11) (oi := ⟨some 31, _, _, _, _, _⟩) (v := .bool false) rfl (by kernel_rfl) (by kernel_rfl) (by kernel_rfl) (fun _ _ _ h => h) (Or.inl ⟨by rfl, fun w hw => by (clear hw; go_simp; try rfl)⟩) hHeld ?_
      simp only [Act.put, List.setIfInBounds_toArray, List.set_cons_zero, List.set_cons_succ]
      refine wpAnyH_done (by kernel_rfl) ?_ _
      have HB6 : Hid (Below W.heap.size W w4.drew) := hide (HB4.out.drew)
      obtain ⟨w6, hw6⟩ : ∃ w6, w6 = w4.drew := ⟨_, rfl⟩
      rw [← hw6] at HB6 ⊢
      obtain ⟨h16, h26, h36⟩ := rows3 HB6.out (by have := hlt.out; omega) HH.out
      clear hw6
      go_wp2_with fail
      refine (cab.out _).mono ?_
      rintro e w7 ⟨rfl, hb7⟩
      have HB7 : Hid (Below W.heap.size W w7) := hide (HB6.out.trans (hb7.mono HB6.out.size))
      obtain ⟨h17, h27, h37⟩ := rows3 HB7.out (by have := hlt.out; omega) HH.out
      clear hb7
      go_wp2_with fail
      refine (cbc.out _).mono ?_
      rintro e w8 ⟨rfl, hb8⟩
      have HB8 : Hid (Below W.heap.size W w8) := hide (HB7.out.trans (hb8.mono HB7.out.size))
      obtain ⟨h18, h28, h38⟩ := rows3 HB8.out (by have := hlt.out; omega) HH.out
      clear hb8
      cases Lbc
      · skip
        go_wp2_with fail
        refine (hkn.out _).mono ?_
        rintro e wk ⟨rfl, hbk⟩
        dsimp only
        go_wp2
        go_ret
        exact ⟨rfl, (hB.out.trans (HB8.out.mono (by have := hlt.out; omega))).trans (hbk.mono (by have := HB8.out.size; have := hlt.out; omega))⟩
      · obtain rfl : Lac = true := by have := htra.out; simpa using this
        go_wp2_with fail
        refine (cac.out _).mono ?_
        rintro e w9 ⟨rfl, hb9⟩
        have HB9 : Hid (Below W.heap.size W w9) := hide (HB8.out.trans (hb9.mono HB8.out.size))
        obtain ⟨h19, h29, h39⟩ := rows3 HB9.out (by have := hlt.out; omega) HH.out
        clear hb9
        go_wp2_with fail
        refine (hkn.out _).mono ?_
        rintro e wk ⟨rfl, hbk⟩
        dsimp only
        go_wp2
        go_ret
        exact ⟨rfl, (hB.out.trans (HB9.out.mono (by have := hlt.out; omega))).trans (hbk.mono (by have := HB9.out.size; have := hlt.out; omega))⟩
end Go.Proofs.Ytmhoedbhfaocjab
