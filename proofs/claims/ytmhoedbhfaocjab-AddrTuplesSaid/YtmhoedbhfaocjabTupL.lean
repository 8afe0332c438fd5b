/-
  The walk of the statement AddrTuples: true; nothing that was there is written.
-/
import Derived.Test.YtmhoedbhfaocjabLess
import Derived.Test.YtmhoedbhfaocjabTur
import Derived.Test.YtmhoedbhfaocjabTue
namespace Go.Proofs.Ytmhoedbhfaocjab
open Go.RowKit
attribute [local go_sem ↓] exec_span exec_put exec_build heap_alloc_new heap_old
attribute [local go_sem] spanQ_ptr spanC_some heap_of_drew heap_of_drewN rs_arr rs_ad rs_tup putAt_ptr putOk_ptr oldOk_some built_none World.setRow_alloc_new
set_option maxRecDepth 100000
set_option linter.unusedVariables false
set_option linter.unusedSimpArgs false

theorem span_tu {w : World} {b : Nat} {X : Array Value} {t : TypeId} {fr : Nat × Nat} {u : Tup} (h : TuV X u) (hg : w.heap[b]? = some (.cells X t fr)) : spanQ Try.prog 43 w (.pointer (some ⟨b, 0, none⟩)) = some X := by
  rw [spanQ_ptr, hg, rs_tup, spanC_some, if_pos (by rw [h.size]; decide), h.x0]

set_option maxHeartbeats 8000000 in
theorem addrTuples_any (w : World) (X Y Z : Array Value) (t u r : Tup) (h : TuV X t) (h' : TuV Y u) (h'' : TuV Z r) :
    Calls Try.prog 6 #[.agg X, .agg Y, .agg Z] w fun e w' => e = .returned (.bool true) ∧ Below w.heap.size w w' := by
  go_enter Try.func6, Try.ntmps6
  have hxs := h.size
  have hys := h'.size
  have hzs := h''.size
  have hxr := h.x0
  have hyr := h'.x0
  have hzr := h''.x0
  obtain ⟨W, hW, h1, h2, h3, hz, hb⟩ := three_blocks w (.cells X 43) (.cells Y 43) (.cells Z 43)
  have hB := hide hb
  have hlt : Hid (W.heap.size = w.heap.size + 3) := hide hz
  have HH := hide (And.intro h1 (And.intro h2 h3))
  obtain ⟨R, hR⟩ : ∃ L, L = rightT t := ⟨_, rfl⟩
  obtain ⟨Lab, hLab⟩ : ∃ L, L = lessT t u := ⟨_, rfl⟩
  obtain ⟨T, hT⟩ : ∃ T, T = (tupL (turnT t)).toArray := ⟨_, rfl⟩
  have hTV : TuV T (turnT t) := by rw [hT]; exact TuV.mk' h.ld h.ls
  have hXX : (tupL (turnT (turnT t))).toArray = X := by rw [turnT_turnT]; exact h.eq.symm
  have c1 := hide (fun W => righttuple_any W X t h)
  have c2 := hide (fun W => refrighttuple_any W X t h)
  have c3 := hide (fun W => lesstuple_any W X Y t u h h')
  have c4 := hide (fun W => reflesstuple_any W X Y t u h h')
  have c5 := hide (fun W => turn_any W X t h)
  have c6 := hide (fun W => refturn_any W X t h)
  have c7 := hide (fun W => turn_any W T (turnT t) hTV)
  have c8 := hide (fun W => righttuple_any W T (turnT t) hTV)
  rw [rightT_turnT] at c8
  rw [← hR] at c1 c2 c8
  rw [← hLab] at c3 c4
  rw [← hT] at c5 c6
  rw [hXX] at c7
  have hn1 : ∀ W, (binOp .neq 43 (.agg T) (.agg T)).run Try.prog W = .ok (.bool false) W := fun W => by rw [neq_tu W T T _ _ hTV hTV, (sameT_iff _ _).2 rfl]; rfl
  have hn2 : ∀ W, (binOp .neq 43 (.agg X) (.agg X)).run Try.prog W = .ok (.bool false) W := fun W => by rw [neq_tu W X X _ _ h h, (sameT_iff _ _).2 rfl]; rfl
  obtain ⟨Lba, hLba⟩ : ∃ L, L = lessT u t := ⟨_, rfl⟩
  obtain ⟨Lbc, hLbc⟩ : ∃ L, L = lessT u r := ⟨_, rfl⟩
  obtain ⟨Lac, hLac⟩ : ∃ L, L = lessT t r := ⟨_, rfl⟩
  have cba := hide (fun W => lesstuple_any W Y X u t h' h)
  have cbc := hide (fun W => lesstuple_any W Y Z u r h' h'')
  have cac := hide (fun W => lesstuple_any W X Z t r h h'')
  have caa := hide (fun W => lesstuple_any W X X t t h h)
  have HX := hide h
  have HY := hide h'
  rw [lessT_irrefl] at caa
  rw [← hLba] at cba
  rw [← hLbc] at cbc
  rw [← hLac] at cac
  have hne := fun W => neq_tu W X Y t u h h'
  have hTot := hide (fun hd : t ≠ u => show Lab = !Lba by rw [hLab, hLba]; exact lessT_total (by rw [h.ls, h'.ls]) (by rw [h.ld, h'.ld]) hd)
  have hTra := hide (fun (e1 : Lab = true) (e2 : Lbc = true) => show Lac = true by rw [hLac]; exact lessT_trans (by rw [← hLab]; exact e1) (by rw [← hLbc]; exact e2))
  have hkn := hide (fun W => knownA_any W)
  obtain ⟨EQ, hEQ⟩ : ∃ EQ, EQ = sameT t u := ⟨_, rfl⟩
  rw [← hEQ] at hne
  have HEQ := hide hEQ
  have HL := hide hLab
  have HTV := hide hTV
  clear hz hb hR hLab hT hTV hXX h1 h2 h3 hLba hLbc hLac hEQ h h' h''
  go_wp2
  go_region_held3 (fun w' => w'.heap[w.heap.size]? = some (.cells X 43 (0, 0)) ∧ w'.heap[w.heap.size + 1]? = some (.cells Y 43 (0, 0)) ∧ w'.heap[w.heap.size + 1 + 1]? = some (.cells Z 43 (0, 0)))
    (first | exact HH.out | assumption)
    (first
      | (have hx := HB10; clear hx; go_at_call 29; (with_reducible refine (c2.out _).mono ?_); rintro e w11 ⟨rfl, hb11⟩; have HB11 : Hid (Below W.heap.size W w11) := hide (HB10.out.trans (hb11.mono HB10.out.size)); clear hb11; have HR11 := rows3 HB11.out (by have := hlt.out; omega) HH.out; clear HR10)
      | (have hx := HB9; clear hx; go_at_call 28; (with_reducible refine (c8.out _).mono ?_); rintro e w10 ⟨rfl, hb10⟩; have HB10 : Hid (Below W.heap.size W w10) := hide (HB9.out.trans (hb10.mono HB9.out.size)); clear hb10; have HR10 := rows3 HB10.out (by have := hlt.out; omega) HH.out; clear HR9)
      | (have hx := HB8; clear hx; go_at_call 32; (with_reducible refine (c5.out _).mono ?_); rintro e w9 ⟨rfl, hb9⟩; have HB9 : Hid (Below W.heap.size W w9) := hide (HB8.out.trans (hb9.mono HB8.out.size)); clear hb9; have HR9 := rows3 HB9.out (by have := hlt.out; omega) HH.out; clear HR8)
      | (have hx := HB7; clear hx; go_at_call 32; (with_reducible refine (c7.out _).mono ?_); rintro e w8 ⟨rfl, hb8⟩; have HB8 : Hid (Below W.heap.size W w8) := hide (HB7.out.trans (hb8.mono HB7.out.size)); clear hb8; have HR8 := rows3 HB8.out (by have := hlt.out; omega) HH.out; clear HR7)
      | (have hx := HB6; clear hx; go_at_call 32; (with_reducible refine (c5.out _).mono ?_); rintro e w7 ⟨rfl, hb7⟩; have HB7 : Hid (Below W.heap.size W w7) := hide (HB6.out.trans (hb7.mono HB6.out.size)); clear hb7; have HR7 := rows3 HB7.out (by have := hlt.out; omega) HH.out; clear HR6)
      | (have hx := HB5; clear hx; go_at_call 33; (with_reducible refine (c6.out _).mono ?_); rintro e w6 ⟨rfl, hb6⟩; have HB6 : Hid (Below W.heap.size W w6) := hide (HB5.out.trans (hb6.mono HB5.out.size)); clear hb6; have HR6 := rows3 HB6.out (by have := hlt.out; omega) HH.out; clear HR5)
      | (have hx := HB4; clear hx; go_at_call 32; (with_reducible refine (c5.out _).mono ?_); rintro e w5 ⟨rfl, hb5⟩; have HB5 : Hid (Below W.heap.size W w5) := hide (HB4.out.trans (hb5.mono HB4.out.size)); clear hb5; have HR5 := rows3 HB5.out (by have := hlt.out; omega) HH.out; clear HR4)
      | (have hx := HB3; clear hx; go_at_call 31; (with_reducible refine (c4.out _).mono ?_); rintro e w4 ⟨rfl, hb4⟩; have HB4 : Hid (Below W.heap.size W w4) := hide (HB3.out.trans (hb4.mono HB3.out.size)); clear hb4; have HR4 := rows3 HB4.out (by have := hlt.out; omega) HH.out; clear HR3)
      | (have hx := HB2; clear hx; go_at_call 30; (with_reducible refine (c3.out _).mono ?_); rintro e w3 ⟨rfl, hb3⟩; have HB3 : Hid (Below W.heap.size W w3) := hide (HB2.out.trans (hb3.mono HB2.out.size)); clear hb3; have HR3 := rows3 HB3.out (by have := hlt.out; omega) HH.out; clear HR2)
      | (have hx := HB1; clear hx; go_at_call 29; (with_reducible refine (c2.out _).mono ?_); rintro e w2 ⟨rfl, hb2⟩; have HB2 : Hid (Below W.heap.size W w2) := hide (HB1.out.trans (hb2.mono HB1.out.size)); clear hb2; have HR2 := rows3 HB2.out (by have := hlt.out; omega) HH.out; clear HR1)
      | (go_at_call 28; (with_reducible refine (c1.out _).mono ?_); rintro e w1 ⟨rfl, hb1⟩; have HB1 : Hid (Below W.heap.size W w1) := hide (below_undrew' hb1); clear hb1; have HR1 := rows3 HB1.out (by have := hlt.out; omega) HH.out))
  have HR := hide HR11
  clear HR11 hn1 hn2
  obtain ⟨hh1, hh2, hh3⟩ := HR.out
  cases EQ
  · have hd : t ≠ u := fun e => by have := HEQ.out; rw [(sameT_iff t u).2 e] at this; cases this
    have hLL := hTot.out hd
    cases Lab
    · obtain rfl : Lba = true := by cases Lba <;> first | rfl | exact absurd hLL (by decide)
      clear hLL
      go_wp2
      go_region_held3 (fun w' => w'.heap[w.heap.size]? = some (.cells X 43 (0, 0)) ∧ w'.heap[w.heap.size + 1]? = some (.cells Y 43 (0, 0)) ∧ w'.heap[w.heap.size + 1 + 1]? = some (.cells Z 43 (0, 0)))
        (first | exact HR.out | assumption)
        (first | (have hx := HB13; clear hx; go_at_call 30; (with_reducible refine (cba.out _).mono ?_); rintro e w14 ⟨rfl, hb14⟩; have HB14 : Hid (Below W.heap.size W w14) := hide (HB13.out.trans ((hb14).mono HB13.out.size)); have HR14 := rows3 HB14.out (by have := hlt.out; omega) HH.out) | (have hx := HB12; clear hx; go_at_call 30; (with_reducible refine (c3.out _).mono ?_); rintro e w13 ⟨rfl, hb13⟩; have HB13 : Hid (Below W.heap.size W w13) := hide (HB12.out.trans ((hb13).mono HB12.out.size)); have HR13 := rows3 HB13.out (by have := hlt.out; omega) HH.out) | (have hx := HB11; clear hx; go_at_call 30; (with_reducible refine (caa.out _).mono ?_); rintro e w12 ⟨rfl, hb12⟩; have HB12 : Hid (Below W.heap.size W w12) := hide (HB11.out.trans ((below_undrew' hb12).mono HB11.out.size)); have HR12 := rows3 HB12.out (by have := hlt.out; omega) HH.out))
      obtain ⟨s1, s2, s3⟩ := HR14
      clear HR12 HR13 hb12 hb13 hb14
      go_wp2_with fail
      refine (c3.out _).mono ?_
      rintro e w21 ⟨rfl, hb21⟩
      have HB21 : Hid (Below W.heap.size W w21) := hide (HB14.out.trans (hb21.mono HB14.out.size))
      obtain ⟨q121, q221, q321⟩ := rows3 HB21.out (by have := hlt.out; omega) HH.out
      clear hb21
      dsimp only
      go_wp2_with fail
      refine (hkn.out _).mono ?_
      rintro e wk ⟨rfl, hbk⟩
      dsimp only
      go_wp2
      go_ret
      exact ⟨rfl, (hB.out.trans (HB21.out.mono (by have := hlt.out; omega))).trans (hbk.mono (by have := HB21.out.size; have := hlt.out; omega))⟩
    · obtain rfl : Lba = false := by cases Lba <;> first | rfl | exact absurd hLL (by decide)
      clear hLL
      go_wp2
      go_region_held3 (fun w' => w'.heap[w.heap.size]? = some (.cells X 43 (0, 0)) ∧ w'.heap[w.heap.size + 1]? = some (.cells Y 43 (0, 0)) ∧ w'.heap[w.heap.size + 1 + 1]? = some (.cells Z 43 (0, 0)))
        (first | exact HR.out | assumption)
        (first | (have hx := HB13; clear hx; go_at_call 30; (with_reducible refine (cba.out _).mono ?_); rintro e w14 ⟨rfl, hb14⟩; have HB14 : Hid (Below W.heap.size W w14) := hide (HB13.out.trans ((hb14).mono HB13.out.size)); have HR14 := rows3 HB14.out (by have := hlt.out; omega) HH.out) | (have hx := HB12; clear hx; go_at_call 30; (with_reducible refine (c3.out _).mono ?_); rintro e w13 ⟨rfl, hb13⟩; have HB13 : Hid (Below W.heap.size W w13) := hide (HB12.out.trans ((hb13).mono HB12.out.size)); have HR13 := rows3 HB13.out (by have := hlt.out; omega) HH.out) | (have hx := HB11; clear hx; go_at_call 30; (with_reducible refine (caa.out _).mono ?_); rintro e w12 ⟨rfl, hb12⟩; have HB12 : Hid (Below W.heap.size W w12) := hide (HB11.out.trans ((below_undrew' hb12).mono HB11.out.size)); have HR12 := rows3 HB12.out (by have := hlt.out; omega) HH.out))
      obtain ⟨s1, s2, s3⟩ := HR14
      clear HR12 HR13 hb12 hb13 hb14
      go_wp2_with fail
      refine (c3.out _).mono ?_
      rintro e w21 ⟨rfl, hb21⟩
      have HB21 : Hid (Below W.heap.size W w21) := hide (HB14.out.trans (hb21.mono HB14.out.size))
      obtain ⟨q121, q221, q321⟩ := rows3 HB21.out (by have := hlt.out; omega) HH.out
      clear hb21
      dsimp only
      go_wp2_with fail
      refine (cbc.out _).mono ?_
      rintro e w22 ⟨rfl, hb22⟩
      have HB22 : Hid (Below W.heap.size W w22) := hide (HB21.out.trans (hb22.mono HB21.out.size))
      obtain ⟨q122, q222, q322⟩ := rows3 HB22.out (by have := hlt.out; omega) HH.out
      clear hb22
      dsimp only
      cases Lbc
      · skip
        go_wp2_with fail
        refine (hkn.out _).mono ?_
        rintro e wk ⟨rfl, hbk⟩
        dsimp only
        go_wp2
        go_ret
        exact ⟨rfl, (hB.out.trans (HB22.out.mono (by have := hlt.out; omega))).trans (hbk.mono (by have := HB22.out.size; have := hlt.out; omega))⟩
      · obtain rfl : Lac = true := by have := hTra.out; simpa using this
        go_wp2_with fail
        refine (cac.out _).mono ?_
        rintro e w23 ⟨rfl, hb23⟩
        have HB23 : Hid (Below W.heap.size W w23) := hide (HB22.out.trans (hb23.mono HB22.out.size))
        obtain ⟨q123, q223, q323⟩ := rows3 HB23.out (by have := hlt.out; omega) HH.out
        clear hb23
        dsimp only
        go_wp2_with fail
        refine (hkn.out _).mono ?_
        rintro e wk ⟨rfl, hbk⟩
        dsimp only
        go_wp2
        go_ret
        exact ⟨rfl, (hB.out.trans (HB23.out.mono (by have := hlt.out; omega))).trans (hbk.mono (by have := HB23.out.size; have := hlt.out; omega))⟩
  · have hd : t = u := (sameT_iff t u).1 HEQ.out.symm
    obtain rfl : Lab = false := by rw [HL.out, hd, lessT_irrefl]
    go_wp2
    refine wp_region_held_drew (S := (fun w' => w'.heap[w.heap.size]? = some (.cells X 43 (0, 0)) ∧ w'.heap[w.heap.size + 1]? = some (.cells Y 43 (0, 0)) ∧ w'.heap[w.heap.size + 1 + 1]? = some (.cells Z 43 (0, 0)))) (by kernel_rfl) ?_ (fun hHeld => ?_)
    · exact HR.out
    refine wpAnyH_take (i := 0) (oi := ⟨some 43, _, _, _, _, _⟩) (v := .agg X) rfl (by kernel_rfl) (by kernel_rfl) (by kernel_rfl) (fun _ _ _ h => h) (yields_row (by rfl) 43 (.tmp 3) (by rfl) _ (by rfl) X (fun w hw => span_tu HX.out hw.1)) hHeld ?_
    simp only [Act.put, List.getElem_toArray, List.getElem_cons_zero, List.getElem_cons_succ, List.setIfInBounds_toArray, List.set_cons_zero, List.set_cons_succ]
    refine wpAnyH_take (i := 1) (oi := ⟨some 44, _, _, _, _, _⟩) (v := .agg X) rfl (by kernel_rfl) (by kernel_rfl) (by kernel_rfl) (fun _ _ _ h => h) (yields_row (by rfl) 43 (.tmp 3) (by rfl) _ (by rfl) X (fun w hw => span_tu HX.out hw.1)) hHeld ?_
    simp only [Act.put, List.getElem_toArray, List.getElem_cons_zero, List.getElem_cons_succ, List.setIfInBounds_toArray, List.set_cons_zero, List.set_cons_succ]
    refine wpAnyH_ready (rs := [2]) (by kernel_rfl) (by simp) ?_
    refine AllReadyH.cons (o := ⟨some 45, _, _, _, _, _⟩) rfl (fun K hK => ?_) AllReadyH.nil
    go_simp
    go_at_call 30
    refine (caa.out _).mono ?_
    rintro e w20 ⟨rfl, hb20⟩
    have HB20 : Hid (Below W.heap.size W w20) := hide (HB11.out.trans ((below_undrew' hb20).mono HB11.out.size))
    dsimp only
    refine hK.out _ _ (rows3 HB20.out (by have := hlt.out; omega) HH.out) (fun hHeld => ?_)
    refine wpAnyH_take (i := 3) (oi := ⟨some 46, _, _, _, _, _⟩) (v := .bool false) rfl (by kernel_rfl) (by kernel_rfl) (by kernel_rfl) (fun _ _ _ h => h) (Or.inl ⟨by rfl, fun w hw => by (clear hw; go_simp; try rfl)⟩) hHeld ?_
    simp only [Act.put, List.getElem_toArray, List.getElem_cons_zero, List.getElem_cons_succ, List.setIfInBounds_toArray, List.set_cons_zero, List.set_cons_succ]
    refine wpAnyH_take (i := 4) (oi := ⟨some 47, _, _, _, _, _⟩) (v := .agg X) rfl (by kernel_rfl) (by kernel_rfl) (by kernel_rfl) (fun _ _ _ h => h) (yields_row (by rfl) 43 (.tmp 3) (by rfl) _ (by rfl) X (fun w hw => span_tu HX.out hw.1)) hHeld ?_
    simp only [Act.put, List.getElem_toArray, List.getElem_cons_zero, List.getElem_cons_succ, List.setIfInBounds_toArray, List.set_cons_zero, List.set_cons_succ]
    refine wpAnyH_take (i := 5) (oi := ⟨some 48, _, _, _, _, _⟩) (v := .agg Y) rfl (by kernel_rfl) (by kernel_rfl) (by kernel_rfl) (fun _ _ _ h => h) (yields_row (by rfl) 43 (.tmp 4) (by rfl) _ (by rfl) Y (fun w hw => span_tu HY.out hw.2.1)) hHeld ?_
    simp only [Act.put, List.getElem_toArray, List.getElem_cons_zero, List.getElem_cons_succ, List.setIfInBounds_toArray, List.set_cons_zero, List.set_cons_succ]
    refine wpAnyH_take (i := 6) (oi := ⟨some 49, _, _, _, _, _⟩) (v := .bool false) rfl (by kernel_rfl) (by kernel_rfl) (by kernel_rfl) (fun _ _ _ h => h) (Or.inl ⟨by rfl, fun w hw => by (clear hw; go_simp; try rfl)⟩) hHeld ?_
    simp only [Act.put, List.getElem_toArray, List.getElem_cons_zero, List.getElem_cons_succ, List.setIfInBounds_toArray, List.set_cons_zero, List.set_cons_succ]
    refine wpAnyH_take (i := 7) (oi := ⟨some 50, _, _, _, _, _⟩) (v := .bool false) rfl (by kernel_rfl) (by kernel_rfl) (by kernel_rfl) (fun _ _ _ h => h) (Or.inl ⟨by rfl, fun w hw => by (clear hw; go_simp; try rfl)⟩) hHeld ?_
    simp only [Act.put, List.getElem_toArray, List.getElem_cons_zero, List.getElem_cons_succ, List.setIfInBounds_toArray, List.set_cons_zero, List.set_cons_succ]
    refine wpAnyH_take (i := 8) (oi := ⟨some 51, _, _, _, _, _⟩) (v := undef) rfl (by kernel_rfl) (by kernel_rfl) (by kernel_rfl) (fun _ _ _ h => h) (Or.inr ⟨by rfl, rfl⟩) hHeld ?_
    simp only [Act.put, List.getElem_toArray, List.getElem_cons_zero, List.getElem_cons_succ, List.setIfInBounds_toArray, List.set_cons_zero, List.set_cons_succ]
    refine wpAnyH_take (i := 9) (oi := ⟨some 52, _, _, _, _, _⟩) (v := undef) rfl (by kernel_rfl) (by kernel_rfl) (by kernel_rfl) (fun _ _ _ h => h) (Or.inr ⟨by rfl, rfl⟩) hHeld ?_
    simp only [Act.put, List.getElem_toArray, List.getElem_cons_zero, List.getElem_cons_succ, List.setIfInBounds_toArray, List.set_cons_zero, List.set_cons_succ]
    refine wpAnyH_take (i := 10) (oi := ⟨some 53, _, _, _, _, _⟩) (v := undef) rfl (by kernel_rfl) (by kernel_rfl) (by kernel_rfl) (fun _ _ _ h => h) (Or.inr ⟨by rfl, rfl⟩) hHeld ?_
    simp only [Act.put, List.getElem_toArray, List.getElem_cons_zero, List.getElem_cons_succ, List.setIfInBounds_toArray, List.set_cons_zero, List.set_cons_succ]
    refine wpAnyH_take (i := 11) (oi := ⟨some 54, _, _, _, _, _⟩) (v := undef) rfl (by kernel_rfl) (by kernel_rfl) (by kernel_rfl) (fun _ _ _ h => h) (Or.inr ⟨by rfl, rfl⟩) hHeld ?_
    simp only [Act.put, List.getElem_toArray, List.getElem_cons_zero, List.getElem_cons_succ, List.setIfInBounds_toArray, List.set_cons_zero, List.set_cons_succ]
    refine wpAnyH_take (i := 12) (oi := ⟨some 55, _, _, _, _, _⟩) (v := undef) rfl (by kernel_rfl) (by kernel_rfl) (by kernel_rfl) (fun _ _ _ h => h) (Or.inr ⟨by rfl, rfl⟩) hHeld ?_
    simp only [Act.put, List.getElem_toArray, List.getElem_cons_zero, List.getElem_cons_succ, List.setIfInBounds_toArray, List.set_cons_zero, List.set_cons_succ]
    refine wpAnyH_take (i := 13) (oi := ⟨some 56, _, _, _, _, _⟩) (v := undef) rfl (by kernel_rfl) (by kernel_rfl) (by kernel_rfl) (fun _ _ _ h => h) (Or.inr ⟨by rfl, rfl⟩) hHeld ?_
    simp only [Act.put, List.getElem_toArray, List.getElem_cons_zero, List.getElem_cons_succ, List.setIfInBounds_toArray, List.set_cons_zero, List.set_cons_succ]
    refine wpAnyH_take (i := 14) (oi := ⟨some 57, _, _, _, _, _⟩) (v := undef) rfl (by kernel_rfl) (by kernel_rfl) (by kernel_rfl) (fun _ _ _ h => h) (Or.inr ⟨by rfl, rfl⟩) hHeld ?_
    simp only [Act.put, List.getElem_toArray, List.getElem_cons_zero, List.getElem_cons_succ, List.setIfInBounds_toArray, List.set_cons_zero, List.set_cons_succ]
    refine wpAnyH_take (i := 15) (oi := ⟨some 58, _, _, _, _, _⟩) (v := .bool false) rfl (by kernel_rfl) (by kernel_rfl) (by kernel_rfl) (fun _ _ _ h => h) (Or.inl ⟨by rfl, fun w hw => by (clear hw; go_simp; try rfl)⟩) hHeld ?_
    simp only [Act.put, List.getElem_toArray, List.getElem_cons_zero, List.getElem_cons_succ, List.setIfInBounds_toArray, List.set_cons_zero, List.set_cons_succ]
    refine wpAnyH_take (i := 16) (oi := ⟨some 59, _, _, _, _, _⟩) (v := .bool false) rfl (by kernel_rfl) (by kernel_rfl) (by kernel_rfl) (fun _ _ _ h => h) (Or.inl ⟨by rfl, fun w hw => by (clear hw; go_simp; try rfl)⟩) hHeld ?_
    simp only [Act.put, List.getElem_toArray, List.getElem_cons_zero, List.getElem_cons_succ, List.setIfInBounds_toArray, List.set_cons_zero, List.set_cons_succ]
    refine wpAnyH_done (by kernel_rfl) ?_ _
    obtain ⟨s1, s2, s3⟩ := rows3 HB20.out (by have := hlt.out; omega) HH.out
    go_wp2_with fail
    refine (c3.out _).mono ?_
    rintro e w21 ⟨rfl, hb21⟩
    have HB21 : Hid (Below W.heap.size W w21) := hide (HB20.out.trans (hb21.mono HB20.out.size))
    obtain ⟨q121, q221, q321⟩ := rows3 HB21.out (by have := hlt.out; omega) HH.out
    clear hb21
    dsimp only
    go_wp2_with fail
    refine (hkn.out _).mono ?_
    rintro e wk ⟨rfl, hbk⟩
    dsimp only
    go_wp2
    go_ret
    exact ⟨rfl, (hB.out.trans (HB21.out.mono (by have := hlt.out; omega))).trans (hbk.mono (by have := HB21.out.size; have := hlt.out; omega))⟩
end Go.Proofs.Ytmhoedbhfaocjab
