/-
  The walk of the statement AddrAlike: true; nothing that was there is written.
-/
import Derived.Test.YtmhoedbhfaocjabLess
import Derived.Test.YtmhoedbhfaocjabMaskL
namespace Go.Proofs.Ytmhoedbhfaocjab
open Go.RowKit
attribute [local go_sem ↓] exec_span exec_put exec_build heap_alloc_new heap_old
attribute [local go_sem] spanQ_ptr spanC_some heap_of_drew heap_of_drewN rs_arr rs_ad putAt_ptr putOk_ptr oldOk_some built_none World.setRow_alloc_new
set_option maxRecDepth 100000
set_option linter.unusedVariables false
set_option linter.unusedSimpArgs false

theorem rows2 {B : Nat} {W w2 : World} {g1 g2 : Nat} {o1 o2 : Obj} (hb : Below B W w2) (hB : g1 < B ∧ g2 < B) (h : W.heap[g1]? = some o1 ∧ W.heap[g2]? = some o2) : w2.heap[g1]? = some o1 ∧ w2.heap[g2]? = some o2 := ⟨row_kept hb hB.1 h.1, row_kept hb hB.2 h.2⟩

/-- region 8 of AddrAlike, from a frame that holds what it asks, to its end. -/
theorem within_low {v : Bool} {l l' : List UInt8} {n m : Nat} (hn : m ≤ n) (hN : n ≤ 8 * sizeA v) (hr : rightL v l = true) (hr' : rightL v l' = true) (h : withinS v l v l' (n : Int) = true) : withinS v l v l' (m : Int) = true := by
  unfold withinS maskOk at *
  rw [hr, hr'] at *
  simp only [Bool.true_and, Bool.and_eq_true, decide_eq_true_eq, beq_iff_eq, Int.toNat_natCast] at *
  refine ⟨⟨⟨by omega, by omega⟩, by omega, by omega⟩, by simp, ?_⟩
  have e := h.2.2
  have e2 := congrArg (fun L => maskL L m) e
  simp only [maskL_maskL, Nat.min_eq_right hn] at e2
  exact e2
theorem within_zero {v : Bool} {l l' : List UInt8} (hl : l.length = l'.length) (hr : rightL v l = true) (hr' : rightL v l' = true) : withinS v l v l' 0 = true := by
  unfold withinS maskOk
  rw [hr, hr', show (0 : Int).toNat = 0 from rfl, maskL_zero, maskL_zero, hl]
  simp
  omega
theorem within_all {v : Bool} {l l' : List UInt8} (hl : l.length = 16) (hl' : l'.length = 16) (hr : rightL v l = true) (hr' : rightL v l' = true) : withinS v l v l' ((8 * sizeA v : Nat) : Int) = (v == v && l == l') := by
  unfold withinS maskOk
  rw [hr, hr', Int.toNat_natCast]
  have e : ∀ L : List UInt8, L.length = 16 → rightL v L = true → maskL L (8 * sizeA v) = L := fun L hL hR => by
    cases v
    · unfold rightL at hR
      rw [Bool.false_or, beq_iff_eq] at hR
      exact hR.symm
    · exact maskL_all L _ (by rw [hL]; decide)
  rw [e l hl hr, e l' hl' hr']
  simp
  intros
  omega
theorem within_not {v v' : Bool} {l l' : List UInt8} {n : Int} (h : n < 0 ∨ ((8 * sizeA v : Nat) : Int) < n) : withinS v l v' l' n = false := by
  unfold withinS maskOk
  have : (decide (0 ≤ n) && decide (n ≤ ((8 * sizeA v : Nat) : Int))) = false := by
    rcases h with h | h
    · rw [decide_eq_false (by omega)]; rfl
    · rw [decide_eq_false (p := n ≤ _) (by omega)]; simp
  rw [Bool.and_assoc (rightL v l), this]
  simp
theorem within_other {v v' : Bool} {l l' : List UInt8} {n : Int} (h : ¬ (rightL v l = true ∧ rightL v' l' = true ∧ v = v')) : withinS v l v' l' n = false := by
  unfold withinS maskOk
  cases h1 : rightL v l <;> cases h2 : rightL v' l' <;> simp_all

set_option maxHeartbeats 8000000 in
theorem addrAlike_any (w : World) (X Y : Array Value) (v v' : Bool) (l l' : List UInt8) (n m : Int) (h : AdV X v l) (h' : AdV Y v' l') :
    Calls Try.prog 8 #[.agg X, .agg Y, .int .i64 n, .int .i64 m] w fun e w' => e = .returned (.bool true) ∧ Below w.heap.size w w' := by
  go_enter Try.func8, Try.ntmps8
  have hxs := h.size
  have hys := h'.size
  have hxr := h.x0
  have hyr := h'.x0
  obtain ⟨W, hW, h1, h2, hz, hb⟩ := two_blocks w (.cells X 25) (.cells Y 25)
  have hB := hide hb
  have hlt : Hid (W.heap.size = w.heap.size + 2) := hide hz
  have HH := hide (And.intro h1 h2)
  have hkn := hide (fun W => knownA_any W)
  have cr := hide (fun W => right_any W X v l h)
  have cr' := hide (fun W => right_any W Y v' l' h')
  have c0 := hide (fun W => within_any W X Y v v' l l' 0 h h' (by decide) (by decide))
  have HK1 := hide (fun (W : World) (g : Nat) (hg : W.heap[g]? = some (.cells X 25 (0, 0))) => h.kind hg)
  have HK2 := hide (fun (W : World) (g : Nat) (hg : W.heap[g]? = some (.cells Y 25 (0, 0))) => h'.kind hg)
  clear hz hb
  obtain ⟨R, hR⟩ : ∃ R, R = rightL v l := ⟨_, rfl⟩
  obtain ⟨R', hR'⟩ : ∃ R, R = rightL v' l' := ⟨_, rfl⟩
  rw [← hR] at cr
  rw [← hR'] at cr'
  have HR := hide hR
  have HR' := hide hR'
  clear hR hR'
  cases R
  · rw [within_other (fun e => by have := HR.out; rw [e.1] at this; cases this)] at c0
    go_wp2_with fail
    refine (cr.out _).mono ?_
    rintro e w2 ⟨rfl, hb2⟩
    have HB2 : Hid (Below W.heap.size W w2) := hide hb2
    obtain ⟨hx2, hy2⟩ := rows2 hb2 (by have := hlt.out; omega) HH.out
    have L2 : Hid (w.heap.size < w2.heap.size ∧ w.heap.size + 1 < w2.heap.size) := hide (by have := hlt.out; have := hb2.size; omega)
    clear hb2
    dsimp only
    go_wp2_with fail
    refine (c0.out _).mono ?_
    rintro e w8 ⟨rfl, hb8⟩
    have HB8 : Hid (Below W.heap.size W w8) := hide (HB2.out.trans (hb8.mono HB2.out.size))
    clear hb8
    dsimp only
    go_wp2_with fail
    refine (hkn.out _).mono ?_
    rintro e wk ⟨rfl, hbk⟩
    dsimp only
    go_wp2
    go_ret
    exact ⟨rfl, (hB.out.trans (HB8.out.mono (by have := hlt.out; omega))).trans (hbk.mono (by have := HB8.out.size; have := hlt.out; omega))⟩
  · cases R'
    · rw [within_other (fun e => by have := HR'.out; rw [e.2.1] at this; cases this)] at c0
      go_wp2_with fail
      refine (cr.out _).mono ?_
      rintro e w2 ⟨rfl, hb2⟩
      have HB2 : Hid (Below W.heap.size W w2) := hide hb2
      obtain ⟨hx2, hy2⟩ := rows2 hb2 (by have := hlt.out; omega) HH.out
      have L2 : Hid (w.heap.size < w2.heap.size ∧ w.heap.size + 1 < w2.heap.size) := hide (by have := hlt.out; have := hb2.size; omega)
      clear hb2
      dsimp only
      go_wp2_with fail
      refine (cr'.out _).mono ?_
      rintro e w3 ⟨rfl, hb3⟩
      have HB3 : Hid (Below W.heap.size W w3) := hide (HB2.out.trans (hb3.mono HB2.out.size))
      obtain ⟨hx3, hy3⟩ := rows2 hb3 L2.out ⟨hx2, hy2⟩
      have L3 : Hid (w.heap.size < w3.heap.size ∧ w.heap.size + 1 < w3.heap.size) := hide (by have := L2.out; have := hb3.size; omega)
      have k3 := HK1.out w3 _ hx3
      have k3' := HK2.out w3 _ hy3
      clear hb3 hx2 hy2
      dsimp only
      go_wp2_with fail
      refine (c0.out _).mono ?_
      rintro e w8 ⟨rfl, hb8⟩
      have HB8 : Hid (Below W.heap.size W w8) := hide (HB3.out.trans (hb8.mono HB3.out.size))
      clear hb8
      dsimp only
      go_wp2_with fail
      refine (hkn.out _).mono ?_
      rintro e wk ⟨rfl, hbk⟩
      dsimp only
      go_wp2
      go_ret
      exact ⟨rfl, (hB.out.trans (HB8.out.mono (by have := hlt.out; omega))).trans (hbk.mono (by have := HB8.out.size; have := hlt.out; omega))⟩
    · by_cases hv : v = v'
      · subst hv
        rw [within_zero (by rw [h.len, h'.len]) HR.out.symm HR'.out.symm] at c0
        obtain ⟨ALL, hALL⟩ : ∃ A, A = 8 * sizeA v := ⟨_, rfl⟩
        have hA1 : 32 ≤ ALL ∧ ALL ≤ 128 := by rw [hALL]; cases v <;> decide
        have call := hide (fun W => within_any W X Y v v l l' (ALL : Int) h h' (by omega) (by omega))
        rw [hALL, within_all h.len h'.len HR.out.symm HR'.out.symm, ← hALL] at call
        obtain ⟨EQB, hEQB⟩ : ∃ B, B = (v == v && l == l') := ⟨_, rfl⟩
        have heq := fun W => eql_ad W X Y v v l l' h h'
        rw [← hEQB] at call heq
        obtain ⟨n1, hn1⟩ : ∃ k, k = countS n (ALL + 1) := ⟨_, rfl⟩
        have hn2 : n1 < ALL + 1 := by rw [hn1]; exact count_lt n (by omega)
        obtain ⟨m1, hm1⟩ : ∃ k, k = countS m (n1 + 1) := ⟨_, rfl⟩
        have hm2 : m1 < n1 + 1 := by rw [hm1]; exact count_lt m (by omega)
        have k1 := hide (fun W => count_any n (ALL + 1) W (by omega) (by omega))
        have k2 := hide (fun W => count_any m (n1 + 1) W (by omega) (by omega))
        rw [← hn1] at k1
        rw [← hm1] at k2
        have cn := hide (fun W => within_any W X Y v v l l' (n1 : Int) h h' (by omega) (by omega))
        have cm := hide (fun W => within_any W X Y v v l l' (m1 : Int) h h' (by omega) (by omega))
        have cneg := hide (fun W => within_any W X Y v v l l' (-1) h h' (by decide) (by decide))
        have cbig := hide (fun W => within_any W X Y v v l l' ((ALL + 1 : Nat) : Int) h h' (by omega) (by omega))
        rw [within_not (.inl (by decide))] at cneg
        rw [within_not (.inr (by rw [← hALL]; omega))] at cbig
        have hlow := hide (fun e => within_low (v := v) (l := l) (l' := l') (n := n1) (m := m1) (by omega) (by rw [← hALL]; omega) HR.out.symm HR'.out.symm e)
        obtain ⟨WN, hWN⟩ : ∃ B, B = withinS v l v l' (n1 : Int) := ⟨_, rfl⟩
        have HWN := hide hWN
        rw [← hWN] at cn
        have HALL := hide hALL
        clear hALL hEQB hn1 hm1 hWN
        go_wp2_with fail
        refine (cr.out _).mono ?_
        rintro e w2 ⟨rfl, hb2⟩
        have HB2 : Hid (Below W.heap.size W w2) := hide hb2
        obtain ⟨hx2, hy2⟩ := rows2 hb2 (by have := hlt.out; omega) HH.out
        have L2 : Hid (w.heap.size < w2.heap.size ∧ w.heap.size + 1 < w2.heap.size) := hide (by have := hlt.out; have := hb2.size; omega)
        clear hb2
        dsimp only
        go_wp2_with fail
        refine (cr'.out _).mono ?_
        rintro e w3 ⟨rfl, hb3⟩
        have HB3 : Hid (Below W.heap.size W w3) := hide (HB2.out.trans (hb3.mono HB2.out.size))
        obtain ⟨hx3, hy3⟩ := rows2 hb3 L2.out ⟨hx2, hy2⟩
        have L3 : Hid (w.heap.size < w3.heap.size ∧ w.heap.size + 1 < w3.heap.size) := hide (by have := L2.out; have := hb3.size; omega)
        have k3 := HK1.out w3 _ hx3
        have k3' := HK2.out w3 _ hy3
        clear hb3 hx2 hy2
        dsimp only
        have HS3 : Hid (w3.heap[w.heap.size]? = some (.cells X 25 (0, 0)) ∧ w3.heap[w.heap.size + 1]? = some (.cells Y 25 (0, 0))) := hide ⟨hx3, hy3⟩
        have hvv : (v != v) = false := by simp
        cases v
        · have hA : ALL = 32 := HALL.out
          subst hA
          go_wp2_with fail
          refine (k1.out _).mono ?_
          rintro e w4 ⟨rfl, rfl⟩
          dsimp only
          go_wp2_with fail
          refine (k2.out _).mono ?_
          rintro e w5 ⟨rfl, rfl⟩
          dsimp only
          rw [show ((32 : Nat) : Int) = 32 from rfl] at call
          rw [show ((32 + 1 : Nat) : Int) = 33 from rfl] at cbig
          go_wp2_with fail
          cases WN
          · refine wp_region_held_drew (S := (fun w' => w'.heap[w.heap.size]? = some (.cells X 25 (0, 0)) ∧ w'.heap[w.heap.size + 1]? = some (.cells Y 25 (0, 0)))) (by kernel_rfl) ?_ (fun hHeld => ?_)
            · exact HS3.out
            refine wpAnyH_take (i := 0) (oi := ⟨some 42, _, _, _, _, _⟩) (v := .agg X) rfl (by kernel_rfl) (by kernel_rfl) (by kernel_rfl) (fun _ _ _ h => h) (yields_row (by rfl) 25 (.tmp 4) (by rfl) _ (by rfl) X (fun w hw => span_ad h hw.1)) hHeld ?_
            try simp only [Act.put, List.setIfInBounds_toArray, List.set_cons_zero, List.set_cons_succ]
            refine wpAnyH_take (i := 1) (oi := ⟨some 43, _, _, _, _, _⟩) (v := .agg Y) rfl (by kernel_rfl) (by kernel_rfl) (by kernel_rfl) (fun _ _ _ h => h) (yields_row (by rfl) 25 (.tmp 5) (by rfl) _ (by rfl) Y (fun w hw => span_ad h' hw.2)) hHeld ?_
            try simp only [Act.put, List.setIfInBounds_toArray, List.set_cons_zero, List.set_cons_succ]
            refine wpAnyH_ready (rs := [2]) (by kernel_rfl) (by simp) ?_
            refine AllReadyH.cons (o := ⟨some 44, _, _, _, _, _⟩) rfl (fun K hK => ?_) AllReadyH.nil
            go_simp
            go_at_call 26
            refine (c0.out _).mono ?_
            rintro e w20 ⟨rfl, hb20⟩
            have HB20 : Hid (Below w3.heap.size w3 w20) := hide (below_undrew' hb20)
            dsimp only
            refine hK.out _ _ (rows2 HB20.out L3.out HS3.out) (fun hHeld => ?_)
            clear hK K hb20
            try simp only [Act.put, List.setIfInBounds_toArray, List.set_cons_zero, List.set_cons_succ]
            refine wpAnyH_take (i := 3) (oi := ⟨some 45, _, _, _, _, _⟩) (v := .bool true) rfl (by kernel_rfl) (by kernel_rfl) (by kernel_rfl) (fun _ _ _ h => h) (Or.inl ⟨by rfl, fun w hw => by (clear hw; go_simp; try rfl)⟩) hHeld ?_
            try simp only [Act.put, List.setIfInBounds_toArray, List.set_cons_zero, List.set_cons_succ]
            refine wpAnyH_take (i := 4) (oi := ⟨some 46, _, _, _, _, _⟩) (v := .agg X) rfl (by kernel_rfl) (by kernel_rfl) (by kernel_rfl) (fun _ _ _ h => h) (yields_row (by rfl) 25 (.tmp 4) (by rfl) _ (by rfl) X (fun w hw => span_ad h hw.1)) hHeld ?_
            try simp only [Act.put, List.setIfInBounds_toArray, List.set_cons_zero, List.set_cons_succ]
            refine wpAnyH_take (i := 5) (oi := ⟨some 47, _, _, _, _, _⟩) (v := .agg Y) rfl (by kernel_rfl) (by kernel_rfl) (by kernel_rfl) (fun _ _ _ h => h) (yields_row (by rfl) 25 (.tmp 5) (by rfl) _ (by rfl) Y (fun w hw => span_ad h' hw.2)) hHeld ?_
            try simp only [Act.put, List.setIfInBounds_toArray, List.set_cons_zero, List.set_cons_succ]
            refine wpAnyH_take (i := 6) (oi := ⟨some 48, _, _, _, _, _⟩) (v := .int .i64 32) rfl (by kernel_rfl) (by kernel_rfl) (by kernel_rfl) (fun _ _ _ h => h) (Or.inl ⟨by rfl, fun w hw => by (clear hw; go_simp; try rfl)⟩) hHeld ?_
            try simp only [Act.put, List.setIfInBounds_toArray, List.set_cons_zero, List.set_cons_succ]
            refine wpAnyH_take (i := 8) (oi := ⟨some 50, _, _, _, _, _⟩) (v := .agg X) rfl (by kernel_rfl) (by kernel_rfl) (by kernel_rfl) (fun _ _ _ h => h) (yields_row (by rfl) 25 (.tmp 4) (by rfl) _ (by rfl) X (fun w hw => span_ad h hw.1)) hHeld ?_
            try simp only [Act.put, List.setIfInBounds_toArray, List.set_cons_zero, List.set_cons_succ]
            refine wpAnyH_take (i := 9) (oi := ⟨some 51, _, _, _, _, _⟩) (v := .agg Y) rfl (by kernel_rfl) (by kernel_rfl) (by kernel_rfl) (fun _ _ _ h => h) (yields_row (by rfl) 25 (.tmp 5) (by rfl) _ (by rfl) Y (fun w hw => span_ad h' hw.2)) hHeld ?_
            try simp only [Act.put, List.setIfInBounds_toArray, List.set_cons_zero, List.set_cons_succ]
            refine wpAnyH_take (i := 10) (oi := ⟨some 52, _, _, _, _, _⟩) (v := .bool EQB) rfl (by kernel_rfl) (by kernel_rfl) (by kernel_rfl) (fun _ _ _ h => h) (Or.inl ⟨by rfl, fun w hw => by (clear hw; go_simp; try rfl)⟩) hHeld ?_
            try simp only [Act.put, List.setIfInBounds_toArray, List.set_cons_zero, List.set_cons_succ]
            refine wpAnyH_ready (rs := [7]) (by kernel_rfl) (by simp) ?_
            refine AllReadyH.cons (o := ⟨some 49, _, _, _, _, _⟩) rfl (fun K hK => ?_) AllReadyH.nil
            go_simp
            go_at_call 26
            refine (call.out _).mono ?_
            rintro e w21 ⟨rfl, hb21⟩
            have HB21 : Hid (Below w3.heap.size w3 w21) := hide (HB20.out.trans (hb21.mono HB20.out.size))
            dsimp only
            refine hK.out _ _ (rows2 HB21.out L3.out HS3.out) (fun hHeld => ?_)
            clear hK K hb21
            try simp only [Act.put, List.setIfInBounds_toArray, List.set_cons_zero, List.set_cons_succ]
            refine wpAnyH_take (i := 11) (oi := ⟨some 53, _, _, _, _, _⟩) (v := .bool true) rfl (by kernel_rfl) (by kernel_rfl) (by kernel_rfl) (fun _ _ _ h => h) (Or.inl ⟨by rfl, fun w hw => by (clear hw; go_simp; try rfl)⟩) hHeld ?_
            try simp only [Act.put, List.setIfInBounds_toArray, List.set_cons_zero, List.set_cons_succ]
            refine wpAnyH_take (i := 12) (oi := ⟨some 54, _, _, _, _, _⟩) (v := .bool true) rfl (by kernel_rfl) (by kernel_rfl) (by kernel_rfl) (fun _ _ _ h => h) (Or.inl ⟨by rfl, fun w hw => by (clear hw; go_simp; try rfl)⟩) hHeld ?_
            try simp only [Act.put, List.setIfInBounds_toArray, List.set_cons_zero, List.set_cons_succ]
            refine wpAnyH_take (i := 13) (oi := ⟨some 55, _, _, _, _, _⟩) (v := .bool true) rfl (by kernel_rfl) (by kernel_rfl) (by kernel_rfl) (fun _ _ _ h => h) (Or.inl ⟨by rfl, fun w hw => by (clear hw; go_simp; try rfl)⟩) hHeld ?_
            try simp only [Act.put, List.setIfInBounds_toArray, List.set_cons_zero, List.set_cons_succ]
            refine wpAnyH_take (i := 14) (oi := ⟨some 56, _, _, _, _, _⟩) (v := .agg X) rfl (by kernel_rfl) (by kernel_rfl) (by kernel_rfl) (fun _ _ _ h => h) (yields_row (by rfl) 25 (.tmp 4) (by rfl) _ (by rfl) X (fun w hw => span_ad h hw.1)) hHeld ?_
            try simp only [Act.put, List.setIfInBounds_toArray, List.set_cons_zero, List.set_cons_succ]
            refine wpAnyH_take (i := 15) (oi := ⟨some 57, _, _, _, _, _⟩) (v := .agg Y) rfl (by kernel_rfl) (by kernel_rfl) (by kernel_rfl) (fun _ _ _ h => h) (yields_row (by rfl) 25 (.tmp 5) (by rfl) _ (by rfl) Y (fun w hw => span_ad h' hw.2)) hHeld ?_
            try simp only [Act.put, List.setIfInBounds_toArray, List.set_cons_zero, List.set_cons_succ]
            refine wpAnyH_take (i := 16) (oi := ⟨some 58, _, _, _, _, _⟩) (v := .int .i64 (n1 : Int)) rfl (by kernel_rfl) (by kernel_rfl) (by kernel_rfl) (fun _ _ _ h => h) (Or.inl ⟨by rfl, fun w hw => by (clear hw; go_simp; try rfl)⟩) hHeld ?_
            try simp only [Act.put, List.setIfInBounds_toArray, List.set_cons_zero, List.set_cons_succ]
            refine wpAnyH_ready (rs := [17]) (by kernel_rfl) (by simp) ?_
            refine AllReadyH.cons (o := ⟨some 59, _, _, _, _, _⟩) rfl (fun K hK => ?_) AllReadyH.nil
            go_simp
            go_at_call 26
            refine (cn.out _).mono ?_
            rintro e w22 ⟨rfl, hb22⟩
            have HB22 : Hid (Below w3.heap.size w3 w22) := hide (HB21.out.trans (hb22.mono HB21.out.size))
            dsimp only
            refine hK.out _ _ (rows2 HB22.out L3.out HS3.out) (fun hHeld => ?_)
            clear hK K hb22
            try simp only [Act.put, List.setIfInBounds_toArray, List.set_cons_zero, List.set_cons_succ]
            refine wpAnyH_take (i := 18) (oi := ⟨some 60, _, _, _, _, _⟩) (v := .bool true) rfl (by kernel_rfl) (by kernel_rfl) (by kernel_rfl) (fun _ _ _ h => h) (Or.inl ⟨by rfl, fun w hw => by (clear hw; go_simp; try rfl)⟩) hHeld ?_
            try simp only [Act.put, List.setIfInBounds_toArray, List.set_cons_zero, List.set_cons_succ]
            refine wpAnyH_take (i := 19) (oi := ⟨some 61, _, _, _, _, _⟩) (v := .bool true) rfl (by kernel_rfl) (by kernel_rfl) (by kernel_rfl) (fun _ _ _ h => h) (Or.inl ⟨by rfl, fun w hw => by (clear hw; go_simp; try rfl)⟩) hHeld ?_
            try simp only [Act.put, List.setIfInBounds_toArray, List.set_cons_zero, List.set_cons_succ]
            refine wpAnyH_take (i := 20) (oi := ⟨some 62, _, _, _, _, _⟩) (v := undef) rfl (by kernel_rfl) (by kernel_rfl) (by kernel_rfl) (fun _ _ _ h => h) (Or.inr ⟨by rfl, rfl⟩) hHeld ?_
            try simp only [Act.put, List.setIfInBounds_toArray, List.set_cons_zero, List.set_cons_succ]
            refine wpAnyH_take (i := 21) (oi := ⟨some 63, _, _, _, _, _⟩) (v := undef) rfl (by kernel_rfl) (by kernel_rfl) (by kernel_rfl) (fun _ _ _ h => h) (Or.inr ⟨by rfl, rfl⟩) hHeld ?_
            try simp only [Act.put, List.setIfInBounds_toArray, List.set_cons_zero, List.set_cons_succ]
            refine wpAnyH_take (i := 22) (oi := ⟨some 64, _, _, _, _, _⟩) (v := undef) rfl (by kernel_rfl) (by kernel_rfl) (by kernel_rfl) (fun _ _ _ h => h) (Or.inr ⟨by rfl, rfl⟩) hHeld ?_
            try simp only [Act.put, List.setIfInBounds_toArray, List.set_cons_zero, List.set_cons_succ]
            refine wpAnyH_take (i := 23) (oi := ⟨some 65, _, _, _, _, _⟩) (v := undef) rfl (by kernel_rfl) (by kernel_rfl) (by kernel_rfl) (fun _ _ _ h => h) (Or.inr ⟨by rfl, rfl⟩) hHeld ?_
            try simp only [Act.put, List.setIfInBounds_toArray, List.set_cons_zero, List.set_cons_succ]
            refine wpAnyH_take (i := 24) (oi := ⟨some 66, _, _, _, _, _⟩) (v := .bool true) rfl (by kernel_rfl) (by kernel_rfl) (by kernel_rfl) (fun _ _ _ h => h) (Or.inl ⟨by rfl, fun w hw => by (clear hw; go_simp; try rfl)⟩) hHeld ?_
            try simp only [Act.put, List.setIfInBounds_toArray, List.set_cons_zero, List.set_cons_succ]
            refine wpAnyH_take (i := 25) (oi := ⟨some 67, _, _, _, _, _⟩) (v := .bool true) rfl (by kernel_rfl) (by kernel_rfl) (by kernel_rfl) (fun _ _ _ h => h) (Or.inl ⟨by rfl, fun w hw => by (clear hw; go_simp; try rfl)⟩) hHeld ?_
            try simp only [Act.put, List.setIfInBounds_toArray, List.set_cons_zero, List.set_cons_succ]
            refine wpAnyH_take (i := 26) (oi := ⟨some 68, _, _, _, _, _⟩) (v := .bool true) rfl (by kernel_rfl) (by kernel_rfl) (by kernel_rfl) (fun _ _ _ h => h) (Or.inl ⟨by rfl, fun w hw => by (clear hw; go_simp; try rfl)⟩) hHeld ?_
            try simp only [Act.put, List.setIfInBounds_toArray, List.set_cons_zero, List.set_cons_succ]
            refine wpAnyH_take (i := 27) (oi := ⟨some 69, _, _, _, _, _⟩) (v := .agg X) rfl (by kernel_rfl) (by kernel_rfl) (by kernel_rfl) (fun _ _ _ h => h) (yields_row (by rfl) 25 (.tmp 4) (by rfl) _ (by rfl) X (fun w hw => span_ad h hw.1)) hHeld ?_
            try simp only [Act.put, List.setIfInBounds_toArray, List.set_cons_zero, List.set_cons_succ]
            refine wpAnyH_take (i := 28) (oi := ⟨some 70, _, _, _, _, _⟩) (v := .agg Y) rfl (by kernel_rfl) (by kernel_rfl) (by kernel_rfl) (fun _ _ _ h => h) (yields_row (by rfl) 25 (.tmp 5) (by rfl) _ (by rfl) Y (fun w hw => span_ad h' hw.2)) hHeld ?_
            try simp only [Act.put, List.setIfInBounds_toArray, List.set_cons_zero, List.set_cons_succ]
            refine wpAnyH_ready (rs := [29]) (by kernel_rfl) (by simp) ?_
            refine AllReadyH.cons (o := ⟨some 71, _, _, _, _, _⟩) rfl (fun K hK => ?_) AllReadyH.nil
            go_simp
            go_at_call 26
            refine (cneg.out _).mono ?_
            rintro e w24 ⟨rfl, hb24⟩
            have HB24 : Hid (Below w3.heap.size w3 w24) := hide (HB22.out.trans (hb24.mono HB22.out.size))
            dsimp only
            refine hK.out _ _ (rows2 HB24.out L3.out HS3.out) (fun hHeld => ?_)
            clear hK K hb24
            try simp only [Act.put, List.setIfInBounds_toArray, List.set_cons_zero, List.set_cons_succ]
            refine wpAnyH_take (i := 30) (oi := ⟨some 72, _, _, _, _, _⟩) (v := .bool true) rfl (by kernel_rfl) (by kernel_rfl) (by kernel_rfl) (fun _ _ _ h => h) (Or.inl ⟨by rfl, fun w hw => by (clear hw; go_simp; try rfl)⟩) hHeld ?_
            try simp only [Act.put, List.setIfInBounds_toArray, List.set_cons_zero, List.set_cons_succ]
            refine wpAnyH_take (i := 31) (oi := ⟨some 73, _, _, _, _, _⟩) (v := .bool true) rfl (by kernel_rfl) (by kernel_rfl) (by kernel_rfl) (fun _ _ _ h => h) (Or.inl ⟨by rfl, fun w hw => by (clear hw; go_simp; try rfl)⟩) hHeld ?_
            try simp only [Act.put, List.setIfInBounds_toArray, List.set_cons_zero, List.set_cons_succ]
            refine wpAnyH_take (i := 32) (oi := ⟨some 74, _, _, _, _, _⟩) (v := .bool true) rfl (by kernel_rfl) (by kernel_rfl) (by kernel_rfl) (fun _ _ _ h => h) (Or.inl ⟨by rfl, fun w hw => by (clear hw; go_simp; try rfl)⟩) hHeld ?_
            try simp only [Act.put, List.setIfInBounds_toArray, List.set_cons_zero, List.set_cons_succ]
            refine wpAnyH_take (i := 33) (oi := ⟨some 75, _, _, _, _, _⟩) (v := .agg X) rfl (by kernel_rfl) (by kernel_rfl) (by kernel_rfl) (fun _ _ _ h => h) (yields_row (by rfl) 25 (.tmp 4) (by rfl) _ (by rfl) X (fun w hw => span_ad h hw.1)) hHeld ?_
            try simp only [Act.put, List.setIfInBounds_toArray, List.set_cons_zero, List.set_cons_succ]
            refine wpAnyH_take (i := 34) (oi := ⟨some 76, _, _, _, _, _⟩) (v := .agg Y) rfl (by kernel_rfl) (by kernel_rfl) (by kernel_rfl) (fun _ _ _ h => h) (yields_row (by rfl) 25 (.tmp 5) (by rfl) _ (by rfl) Y (fun w hw => span_ad h' hw.2)) hHeld ?_
            try simp only [Act.put, List.setIfInBounds_toArray, List.set_cons_zero, List.set_cons_succ]
            refine wpAnyH_take (i := 35) (oi := ⟨some 77, _, _, _, _, _⟩) (v := .int .i64 32) rfl (by kernel_rfl) (by kernel_rfl) (by kernel_rfl) (fun _ _ _ h => h) (Or.inl ⟨by rfl, fun w hw => by (clear hw; go_simp; try rfl)⟩) hHeld ?_
            try simp only [Act.put, List.setIfInBounds_toArray, List.set_cons_zero, List.set_cons_succ]
            refine wpAnyH_take (i := 36) (oi := ⟨some 78, _, _, _, _, _⟩) (v := .int .i64 33) rfl (by kernel_rfl) (by kernel_rfl) (by kernel_rfl) (fun _ _ _ h => h) (Or.inl ⟨by rfl, fun w hw => by (clear hw; go_simp; try rfl)⟩) hHeld ?_
            try simp only [Act.put, List.setIfInBounds_toArray, List.set_cons_zero, List.set_cons_succ]
            refine wpAnyH_ready (rs := [37]) (by kernel_rfl) (by simp) ?_
            refine AllReadyH.cons (o := ⟨some 79, _, _, _, _, _⟩) rfl (fun K hK => ?_) AllReadyH.nil
            go_simp
            go_at_call 26
            refine (cbig.out _).mono ?_
            rintro e w25 ⟨rfl, hb25⟩
            have HB25 : Hid (Below w3.heap.size w3 w25) := hide (HB24.out.trans (hb25.mono HB24.out.size))
            dsimp only
            refine hK.out _ _ (rows2 HB25.out L3.out HS3.out) (fun hHeld => ?_)
            clear hK K hb25
            try simp only [Act.put, List.setIfInBounds_toArray, List.set_cons_zero, List.set_cons_succ]
            refine wpAnyH_take (i := 38) (oi := ⟨some 80, _, _, _, _, _⟩) (v := .bool true) rfl (by kernel_rfl) (by kernel_rfl) (by kernel_rfl) (fun _ _ _ h => h) (Or.inl ⟨by rfl, fun w hw => by (clear hw; go_simp; try rfl)⟩) hHeld ?_
            try simp only [Act.put, List.setIfInBounds_toArray, List.set_cons_zero, List.set_cons_succ]
            refine wpAnyH_take (i := 39) (oi := ⟨some 81, _, _, _, _, _⟩) (v := .bool true) rfl (by kernel_rfl) (by kernel_rfl) (by kernel_rfl) (fun _ _ _ h => h) (Or.inl ⟨by rfl, fun w hw => by (clear hw; go_simp; try rfl)⟩) hHeld ?_
            try simp only [Act.put, List.setIfInBounds_toArray, List.set_cons_zero, List.set_cons_succ]
            refine wpAnyH_take (i := 40) (oi := ⟨some 82, _, _, _, _, _⟩) (v := .bool true) rfl (by kernel_rfl) (by kernel_rfl) (by kernel_rfl) (fun _ _ _ h => h) (Or.inl ⟨by rfl, fun w hw => by (clear hw; go_simp; try rfl)⟩) hHeld ?_
            try simp only [Act.put, List.setIfInBounds_toArray, List.set_cons_zero, List.set_cons_succ]
            refine wpAnyH_ready (rs := [41]) (by kernel_rfl) (by simp) ?_
            refine AllReadyH.cons (o := ⟨some 83, _, _, _, _, _⟩) rfl (fun K hK => ?_) AllReadyH.nil
            go_simp
            go_at_call 21
            refine (hkn.out _).mono ?_
            rintro e w26 ⟨rfl, hb26⟩
            have HB26 : Hid (Below w3.heap.size w3 w26) := hide (HB25.out.trans (hb26.mono HB25.out.size))
            dsimp only
            refine hK.out _ _ (rows2 HB26.out L3.out HS3.out) (fun hHeld => ?_)
            clear hK K hb26
            try simp only [Act.put, List.setIfInBounds_toArray, List.set_cons_zero, List.set_cons_succ]
            refine wpAnyH_take (i := 42) (oi := ⟨some 84, _, _, _, _, _⟩) (v := .bool true) rfl (by kernel_rfl) (by kernel_rfl) (by kernel_rfl) (fun _ _ _ h => h) (Or.inl ⟨by rfl, fun w hw => by (clear hw; go_simp; try rfl)⟩) hHeld ?_
            try simp only [Act.put, List.setIfInBounds_toArray, List.set_cons_zero, List.set_cons_succ]
            refine wpAnyH_take (i := 43) (oi := ⟨some 8, _, _, _, _, _⟩) (v := .bool true) rfl (by kernel_rfl) (by kernel_rfl) (by kernel_rfl) (fun _ _ _ h => h) (Or.inl ⟨by rfl, fun w hw => by (clear hw; go_simp; try rfl)⟩) hHeld ?_
            try simp only [Act.put, List.setIfInBounds_toArray, List.set_cons_zero, List.set_cons_succ]
            refine wpAnyH_done (by kernel_rfl) ?_ _
            go_wp2
            go_ret
            exact ⟨rfl, hB.out.trans ((HB3.out.trans (HB26.out.mono HB3.out.size)).mono (by have := hlt.out; omega))⟩
          · rw [hlow.out HWN.out.symm] at cm
            refine wp_region_held_drew (S := (fun w' => w'.heap[w.heap.size]? = some (.cells X 25 (0, 0)) ∧ w'.heap[w.heap.size + 1]? = some (.cells Y 25 (0, 0)))) (by kernel_rfl) ?_ (fun hHeld => ?_)
            · exact HS3.out
            refine wpAnyH_take (i := 0) (oi := ⟨some 42, _, _, _, _, _⟩) (v := .agg X) rfl (by kernel_rfl) (by kernel_rfl) (by kernel_rfl) (fun _ _ _ h => h) (yields_row (by rfl) 25 (.tmp 4) (by rfl) _ (by rfl) X (fun w hw => span_ad h hw.1)) hHeld ?_
            try simp only [Act.put, List.setIfInBounds_toArray, List.set_cons_zero, List.set_cons_succ]
            refine wpAnyH_take (i := 1) (oi := ⟨some 43, _, _, _, _, _⟩) (v := .agg Y) rfl (by kernel_rfl) (by kernel_rfl) (by kernel_rfl) (fun _ _ _ h => h) (yields_row (by rfl) 25 (.tmp 5) (by rfl) _ (by rfl) Y (fun w hw => span_ad h' hw.2)) hHeld ?_
            try simp only [Act.put, List.setIfInBounds_toArray, List.set_cons_zero, List.set_cons_succ]
            refine wpAnyH_ready (rs := [2]) (by kernel_rfl) (by simp) ?_
            refine AllReadyH.cons (o := ⟨some 44, _, _, _, _, _⟩) rfl (fun K hK => ?_) AllReadyH.nil
            go_simp
            go_at_call 26
            refine (c0.out _).mono ?_
            rintro e w20 ⟨rfl, hb20⟩
            have HB20 : Hid (Below w3.heap.size w3 w20) := hide (below_undrew' hb20)
            dsimp only
            refine hK.out _ _ (rows2 HB20.out L3.out HS3.out) (fun hHeld => ?_)
            clear hK K hb20
            try simp only [Act.put, List.setIfInBounds_toArray, List.set_cons_zero, List.set_cons_succ]
            refine wpAnyH_take (i := 3) (oi := ⟨some 45, _, _, _, _, _⟩) (v := .bool true) rfl (by kernel_rfl) (by kernel_rfl) (by kernel_rfl) (fun _ _ _ h => h) (Or.inl ⟨by rfl, fun w hw => by (clear hw; go_simp; try rfl)⟩) hHeld ?_
            try simp only [Act.put, List.setIfInBounds_toArray, List.set_cons_zero, List.set_cons_succ]
            refine wpAnyH_take (i := 4) (oi := ⟨some 46, _, _, _, _, _⟩) (v := .agg X) rfl (by kernel_rfl) (by kernel_rfl) (by kernel_rfl) (fun _ _ _ h => h) (yields_row (by rfl) 25 (.tmp 4) (by rfl) _ (by rfl) X (fun w hw => span_ad h hw.1)) hHeld ?_
            try simp only [Act.put, List.setIfInBounds_toArray, List.set_cons_zero, List.set_cons_succ]
            refine wpAnyH_take (i := 5) (oi := ⟨some 47, _, _, _, _, _⟩) (v := .agg Y) rfl (by kernel_rfl) (by kernel_rfl) (by kernel_rfl) (fun _ _ _ h => h) (yields_row (by rfl) 25 (.tmp 5) (by rfl) _ (by rfl) Y (fun w hw => span_ad h' hw.2)) hHeld ?_
            try simp only [Act.put, List.setIfInBounds_toArray, List.set_cons_zero, List.set_cons_succ]
            refine wpAnyH_take (i := 6) (oi := ⟨some 48, _, _, _, _, _⟩) (v := .int .i64 32) rfl (by kernel_rfl) (by kernel_rfl) (by kernel_rfl) (fun _ _ _ h => h) (Or.inl ⟨by rfl, fun w hw => by (clear hw; go_simp; try rfl)⟩) hHeld ?_
            try simp only [Act.put, List.setIfInBounds_toArray, List.set_cons_zero, List.set_cons_succ]
            refine wpAnyH_take (i := 8) (oi := ⟨some 50, _, _, _, _, _⟩) (v := .agg X) rfl (by kernel_rfl) (by kernel_rfl) (by kernel_rfl) (fun _ _ _ h => h) (yields_row (by rfl) 25 (.tmp 4) (by rfl) _ (by rfl) X (fun w hw => span_ad h hw.1)) hHeld ?_
            try simp only [Act.put, List.setIfInBounds_toArray, List.set_cons_zero, List.set_cons_succ]
            refine wpAnyH_take (i := 9) (oi := ⟨some 51, _, _, _, _, _⟩) (v := .agg Y) rfl (by kernel_rfl) (by kernel_rfl) (by kernel_rfl) (fun _ _ _ h => h) (yields_row (by rfl) 25 (.tmp 5) (by rfl) _ (by rfl) Y (fun w hw => span_ad h' hw.2)) hHeld ?_
            try simp only [Act.put, List.setIfInBounds_toArray, List.set_cons_zero, List.set_cons_succ]
            refine wpAnyH_take (i := 10) (oi := ⟨some 52, _, _, _, _, _⟩) (v := .bool EQB) rfl (by kernel_rfl) (by kernel_rfl) (by kernel_rfl) (fun _ _ _ h => h) (Or.inl ⟨by rfl, fun w hw => by (clear hw; go_simp; try rfl)⟩) hHeld ?_
            try simp only [Act.put, List.setIfInBounds_toArray, List.set_cons_zero, List.set_cons_succ]
            refine wpAnyH_ready (rs := [7]) (by kernel_rfl) (by simp) ?_
            refine AllReadyH.cons (o := ⟨some 49, _, _, _, _, _⟩) rfl (fun K hK => ?_) AllReadyH.nil
            go_simp
            go_at_call 26
            refine (call.out _).mono ?_
            rintro e w21 ⟨rfl, hb21⟩
            have HB21 : Hid (Below w3.heap.size w3 w21) := hide (HB20.out.trans (hb21.mono HB20.out.size))
            dsimp only
            refine hK.out _ _ (rows2 HB21.out L3.out HS3.out) (fun hHeld => ?_)
            clear hK K hb21
            try simp only [Act.put, List.setIfInBounds_toArray, List.set_cons_zero, List.set_cons_succ]
            refine wpAnyH_take (i := 11) (oi := ⟨some 53, _, _, _, _, _⟩) (v := .bool true) rfl (by kernel_rfl) (by kernel_rfl) (by kernel_rfl) (fun _ _ _ h => h) (Or.inl ⟨by rfl, fun w hw => by (clear hw; go_simp; try rfl)⟩) hHeld ?_
            try simp only [Act.put, List.setIfInBounds_toArray, List.set_cons_zero, List.set_cons_succ]
            refine wpAnyH_take (i := 12) (oi := ⟨some 54, _, _, _, _, _⟩) (v := .bool true) rfl (by kernel_rfl) (by kernel_rfl) (by kernel_rfl) (fun _ _ _ h => h) (Or.inl ⟨by rfl, fun w hw => by (clear hw; go_simp; try rfl)⟩) hHeld ?_
            try simp only [Act.put, List.setIfInBounds_toArray, List.set_cons_zero, List.set_cons_succ]
            refine wpAnyH_take (i := 13) (oi := ⟨some 55, _, _, _, _, _⟩) (v := .bool true) rfl (by kernel_rfl) (by kernel_rfl) (by kernel_rfl) (fun _ _ _ h => h) (Or.inl ⟨by rfl, fun w hw => by (clear hw; go_simp; try rfl)⟩) hHeld ?_
            try simp only [Act.put, List.setIfInBounds_toArray, List.set_cons_zero, List.set_cons_succ]
            refine wpAnyH_take (i := 14) (oi := ⟨some 56, _, _, _, _, _⟩) (v := .agg X) rfl (by kernel_rfl) (by kernel_rfl) (by kernel_rfl) (fun _ _ _ h => h) (yields_row (by rfl) 25 (.tmp 4) (by rfl) _ (by rfl) X (fun w hw => span_ad h hw.1)) hHeld ?_
            try simp only [Act.put, List.setIfInBounds_toArray, List.set_cons_zero, List.set_cons_succ]
            refine wpAnyH_take (i := 15) (oi := ⟨some 57, _, _, _, _, _⟩) (v := .agg Y) rfl (by kernel_rfl) (by kernel_rfl) (by kernel_rfl) (fun _ _ _ h => h) (yields_row (by rfl) 25 (.tmp 5) (by rfl) _ (by rfl) Y (fun w hw => span_ad h' hw.2)) hHeld ?_
            try simp only [Act.put, List.setIfInBounds_toArray, List.set_cons_zero, List.set_cons_succ]
            refine wpAnyH_take (i := 16) (oi := ⟨some 58, _, _, _, _, _⟩) (v := .int .i64 (n1 : Int)) rfl (by kernel_rfl) (by kernel_rfl) (by kernel_rfl) (fun _ _ _ h => h) (Or.inl ⟨by rfl, fun w hw => by (clear hw; go_simp; try rfl)⟩) hHeld ?_
            try simp only [Act.put, List.setIfInBounds_toArray, List.set_cons_zero, List.set_cons_succ]
            refine wpAnyH_ready (rs := [17]) (by kernel_rfl) (by simp) ?_
            refine AllReadyH.cons (o := ⟨some 59, _, _, _, _, _⟩) rfl (fun K hK => ?_) AllReadyH.nil
            go_simp
            go_at_call 26
            refine (cn.out _).mono ?_
            rintro e w22 ⟨rfl, hb22⟩
            have HB22 : Hid (Below w3.heap.size w3 w22) := hide (HB21.out.trans (hb22.mono HB21.out.size))
            dsimp only
            refine hK.out _ _ (rows2 HB22.out L3.out HS3.out) (fun hHeld => ?_)
            clear hK K hb22
            try simp only [Act.put, List.setIfInBounds_toArray, List.set_cons_zero, List.set_cons_succ]
            refine wpAnyH_take (i := 18) (oi := ⟨some 60, _, _, _, _, _⟩) (v := .bool false) rfl (by kernel_rfl) (by kernel_rfl) (by kernel_rfl) (fun _ _ _ h => h) (Or.inl ⟨by rfl, fun w hw => by (clear hw; go_simp; try rfl)⟩) hHeld ?_
            try simp only [Act.put, List.setIfInBounds_toArray, List.set_cons_zero, List.set_cons_succ]
            refine wpAnyH_take (i := 19) (oi := ⟨some 61, _, _, _, _, _⟩) (v := .bool false) rfl (by kernel_rfl) (by kernel_rfl) (by kernel_rfl) (fun _ _ _ h => h) (Or.inl ⟨by rfl, fun w hw => by (clear hw; go_simp; try rfl)⟩) hHeld ?_
            try simp only [Act.put, List.setIfInBounds_toArray, List.set_cons_zero, List.set_cons_succ]
            refine wpAnyH_take (i := 20) (oi := ⟨some 62, _, _, _, _, _⟩) (v := .agg X) rfl (by kernel_rfl) (by kernel_rfl) (by kernel_rfl) (fun _ _ _ h => h) (yields_row (by rfl) 25 (.tmp 4) (by rfl) _ (by rfl) X (fun w hw => span_ad h hw.1)) hHeld ?_
            try simp only [Act.put, List.setIfInBounds_toArray, List.set_cons_zero, List.set_cons_succ]
            refine wpAnyH_take (i := 21) (oi := ⟨some 63, _, _, _, _, _⟩) (v := .agg Y) rfl (by kernel_rfl) (by kernel_rfl) (by kernel_rfl) (fun _ _ _ h => h) (yields_row (by rfl) 25 (.tmp 5) (by rfl) _ (by rfl) Y (fun w hw => span_ad h' hw.2)) hHeld ?_
            try simp only [Act.put, List.setIfInBounds_toArray, List.set_cons_zero, List.set_cons_succ]
            refine wpAnyH_take (i := 22) (oi := ⟨some 64, _, _, _, _, _⟩) (v := .int .i64 (m1 : Int)) rfl (by kernel_rfl) (by kernel_rfl) (by kernel_rfl) (fun _ _ _ h => h) (Or.inl ⟨by rfl, fun w hw => by (clear hw; go_simp; try rfl)⟩) hHeld ?_
            try simp only [Act.put, List.setIfInBounds_toArray, List.set_cons_zero, List.set_cons_succ]
            refine wpAnyH_ready (rs := [23]) (by kernel_rfl) (by simp) ?_
            refine AllReadyH.cons (o := ⟨some 65, _, _, _, _, _⟩) rfl (fun K hK => ?_) AllReadyH.nil
            go_simp
            go_at_call 26
            refine (cm.out _).mono ?_
            rintro e w23 ⟨rfl, hb23⟩
            have HB23 : Hid (Below w3.heap.size w3 w23) := hide (HB22.out.trans (hb23.mono HB22.out.size))
            dsimp only
            refine hK.out _ _ (rows2 HB23.out L3.out HS3.out) (fun hHeld => ?_)
            clear hK K hb23
            try simp only [Act.put, List.setIfInBounds_toArray, List.set_cons_zero, List.set_cons_succ]
            refine wpAnyH_take (i := 24) (oi := ⟨some 66, _, _, _, _, _⟩) (v := .bool true) rfl (by kernel_rfl) (by kernel_rfl) (by kernel_rfl) (fun _ _ _ h => h) (Or.inl ⟨by rfl, fun w hw => by (clear hw; go_simp; try rfl)⟩) hHeld ?_
            try simp only [Act.put, List.setIfInBounds_toArray, List.set_cons_zero, List.set_cons_succ]
            refine wpAnyH_take (i := 25) (oi := ⟨some 67, _, _, _, _, _⟩) (v := .bool true) rfl (by kernel_rfl) (by kernel_rfl) (by kernel_rfl) (fun _ _ _ h => h) (Or.inl ⟨by rfl, fun w hw => by (clear hw; go_simp; try rfl)⟩) hHeld ?_
            try simp only [Act.put, List.setIfInBounds_toArray, List.set_cons_zero, List.set_cons_succ]
            refine wpAnyH_take (i := 26) (oi := ⟨some 68, _, _, _, _, _⟩) (v := .bool true) rfl (by kernel_rfl) (by kernel_rfl) (by kernel_rfl) (fun _ _ _ h => h) (Or.inl ⟨by rfl, fun w hw => by (clear hw; go_simp; try rfl)⟩) hHeld ?_
            try simp only [Act.put, List.setIfInBounds_toArray, List.set_cons_zero, List.set_cons_succ]
            refine wpAnyH_take (i := 27) (oi := ⟨some 69, _, _, _, _, _⟩) (v := .agg X) rfl (by kernel_rfl) (by kernel_rfl) (by kernel_rfl) (fun _ _ _ h => h) (yields_row (by rfl) 25 (.tmp 4) (by rfl) _ (by rfl) X (fun w hw => span_ad h hw.1)) hHeld ?_
            try simp only [Act.put, List.setIfInBounds_toArray, List.set_cons_zero, List.set_cons_succ]
            refine wpAnyH_take (i := 28) (oi := ⟨some 70, _, _, _, _, _⟩) (v := .agg Y) rfl (by kernel_rfl) (by kernel_rfl) (by kernel_rfl) (fun _ _ _ h => h) (yields_row (by rfl) 25 (.tmp 5) (by rfl) _ (by rfl) Y (fun w hw => span_ad h' hw.2)) hHeld ?_
            try simp only [Act.put, List.setIfInBounds_toArray, List.set_cons_zero, List.set_cons_succ]
            refine wpAnyH_ready (rs := [29]) (by kernel_rfl) (by simp) ?_
            refine AllReadyH.cons (o := ⟨some 71, _, _, _, _, _⟩) rfl (fun K hK => ?_) AllReadyH.nil
            go_simp
            go_at_call 26
            refine (cneg.out _).mono ?_
            rintro e w24 ⟨rfl, hb24⟩
            have HB24 : Hid (Below w3.heap.size w3 w24) := hide (HB23.out.trans (hb24.mono HB23.out.size))
            dsimp only
            refine hK.out _ _ (rows2 HB24.out L3.out HS3.out) (fun hHeld => ?_)
            clear hK K hb24
            try simp only [Act.put, List.setIfInBounds_toArray, List.set_cons_zero, List.set_cons_succ]
            refine wpAnyH_take (i := 30) (oi := ⟨some 72, _, _, _, _, _⟩) (v := .bool true) rfl (by kernel_rfl) (by kernel_rfl) (by kernel_rfl) (fun _ _ _ h => h) (Or.inl ⟨by rfl, fun w hw => by (clear hw; go_simp; try rfl)⟩) hHeld ?_
            try simp only [Act.put, List.setIfInBounds_toArray, List.set_cons_zero, List.set_cons_succ]
            refine wpAnyH_take (i := 31) (oi := ⟨some 73, _, _, _, _, _⟩) (v := .bool true) rfl (by kernel_rfl) (by kernel_rfl) (by kernel_rfl) (fun _ _ _ h => h) (Or.inl ⟨by rfl, fun w hw => by (clear hw; go_simp; try rfl)⟩) hHeld ?_
            try simp only [Act.put, List.setIfInBounds_toArray, List.set_cons_zero, List.set_cons_succ]
            refine wpAnyH_take (i := 32) (oi := ⟨some 74, _, _, _, _, _⟩) (v := .bool true) rfl (by kernel_rfl) (by kernel_rfl) (by kernel_rfl) (fun _ _ _ h => h) (Or.inl ⟨by rfl, fun w hw => by (clear hw; go_simp; try rfl)⟩) hHeld ?_
            try simp only [Act.put, List.setIfInBounds_toArray, List.set_cons_zero, List.set_cons_succ]
            refine wpAnyH_take (i := 33) (oi := ⟨some 75, _, _, _, _, _⟩) (v := .agg X) rfl (by kernel_rfl) (by kernel_rfl) (by kernel_rfl) (fun _ _ _ h => h) (yields_row (by rfl) 25 (.tmp 4) (by rfl) _ (by rfl) X (fun w hw => span_ad h hw.1)) hHeld ?_
            try simp only [Act.put, List.setIfInBounds_toArray, List.set_cons_zero, List.set_cons_succ]
            refine wpAnyH_take (i := 34) (oi := ⟨some 76, _, _, _, _, _⟩) (v := .agg Y) rfl (by kernel_rfl) (by kernel_rfl) (by kernel_rfl) (fun _ _ _ h => h) (yields_row (by rfl) 25 (.tmp 5) (by rfl) _ (by rfl) Y (fun w hw => span_ad h' hw.2)) hHeld ?_
            try simp only [Act.put, List.setIfInBounds_toArray, List.set_cons_zero, List.set_cons_succ]
            refine wpAnyH_take (i := 35) (oi := ⟨some 77, _, _, _, _, _⟩) (v := .int .i64 32) rfl (by kernel_rfl) (by kernel_rfl) (by kernel_rfl) (fun _ _ _ h => h) (Or.inl ⟨by rfl, fun w hw => by (clear hw; go_simp; try rfl)⟩) hHeld ?_
            try simp only [Act.put, List.setIfInBounds_toArray, List.set_cons_zero, List.set_cons_succ]
            refine wpAnyH_take (i := 36) (oi := ⟨some 78, _, _, _, _, _⟩) (v := .int .i64 33) rfl (by kernel_rfl) (by kernel_rfl) (by kernel_rfl) (fun _ _ _ h => h) (Or.inl ⟨by rfl, fun w hw => by (clear hw; go_simp; try rfl)⟩) hHeld ?_
            try simp only [Act.put, List.setIfInBounds_toArray, List.set_cons_zero, List.set_cons_succ]
            refine wpAnyH_ready (rs := [37]) (by kernel_rfl) (by simp) ?_
            refine AllReadyH.cons (o := ⟨some 79, _, _, _, _, _⟩) rfl (fun K hK => ?_) AllReadyH.nil
            go_simp
            go_at_call 26
            refine (cbig.out _).mono ?_
            rintro e w25 ⟨rfl, hb25⟩
            have HB25 : Hid (Below w3.heap.size w3 w25) := hide (HB24.out.trans (hb25.mono HB24.out.size))
            dsimp only
            refine hK.out _ _ (rows2 HB25.out L3.out HS3.out) (fun hHeld => ?_)
            clear hK K hb25
            try simp only [Act.put, List.setIfInBounds_toArray, List.set_cons_zero, List.set_cons_succ]
            refine wpAnyH_take (i := 38) (oi := ⟨some 80, _, _, _, _, _⟩) (v := .bool true) rfl (by kernel_rfl) (by kernel_rfl) (by kernel_rfl) (fun _ _ _ h => h) (Or.inl ⟨by rfl, fun w hw => by (clear hw; go_simp; try rfl)⟩) hHeld ?_
            try simp only [Act.put, List.setIfInBounds_toArray, List.set_cons_zero, List.set_cons_succ]
            refine wpAnyH_take (i := 39) (oi := ⟨some 81, _, _, _, _, _⟩) (v := .bool true) rfl (by kernel_rfl) (by kernel_rfl) (by kernel_rfl) (fun _ _ _ h => h) (Or.inl ⟨by rfl, fun w hw => by (clear hw; go_simp; try rfl)⟩) hHeld ?_
            try simp only [Act.put, List.setIfInBounds_toArray, List.set_cons_zero, List.set_cons_succ]
            refine wpAnyH_take (i := 40) (oi := ⟨some 82, _, _, _, _, _⟩) (v := .bool true) rfl (by kernel_rfl) (by kernel_rfl) (by kernel_rfl) (fun _ _ _ h => h) (Or.inl ⟨by rfl, fun w hw => by (clear hw; go_simp; try rfl)⟩) hHeld ?_
            try simp only [Act.put, List.setIfInBounds_toArray, List.set_cons_zero, List.set_cons_succ]
            refine wpAnyH_ready (rs := [41]) (by kernel_rfl) (by simp) ?_
            refine AllReadyH.cons (o := ⟨some 83, _, _, _, _, _⟩) rfl (fun K hK => ?_) AllReadyH.nil
            go_simp
            go_at_call 21
            refine (hkn.out _).mono ?_
            rintro e w26 ⟨rfl, hb26⟩
            have HB26 : Hid (Below w3.heap.size w3 w26) := hide (HB25.out.trans (hb26.mono HB25.out.size))
            dsimp only
            refine hK.out _ _ (rows2 HB26.out L3.out HS3.out) (fun hHeld => ?_)
            clear hK K hb26
            try simp only [Act.put, List.setIfInBounds_toArray, List.set_cons_zero, List.set_cons_succ]
            refine wpAnyH_take (i := 42) (oi := ⟨some 84, _, _, _, _, _⟩) (v := .bool true) rfl (by kernel_rfl) (by kernel_rfl) (by kernel_rfl) (fun _ _ _ h => h) (Or.inl ⟨by rfl, fun w hw => by (clear hw; go_simp; try rfl)⟩) hHeld ?_
            try simp only [Act.put, List.setIfInBounds_toArray, List.set_cons_zero, List.set_cons_succ]
            refine wpAnyH_take (i := 43) (oi := ⟨some 8, _, _, _, _, _⟩) (v := .bool true) rfl (by kernel_rfl) (by kernel_rfl) (by kernel_rfl) (fun _ _ _ h => h) (Or.inl ⟨by rfl, fun w hw => by (clear hw; go_simp; try rfl)⟩) hHeld ?_
            try simp only [Act.put, List.setIfInBounds_toArray, List.set_cons_zero, List.set_cons_succ]
            refine wpAnyH_done (by kernel_rfl) ?_ _
            go_wp2
            go_ret
            exact ⟨rfl, hB.out.trans ((HB3.out.trans (HB26.out.mono HB3.out.size)).mono (by have := hlt.out; omega))⟩
        · have hA : ALL = 128 := HALL.out
          subst hA
          go_wp2_with fail
          refine (k1.out _).mono ?_
          rintro e w4 ⟨rfl, rfl⟩
          dsimp only
          go_wp2_with fail
          refine (k2.out _).mono ?_
          rintro e w5 ⟨rfl, rfl⟩
          dsimp only
          rw [show ((128 : Nat) : Int) = 128 from rfl] at call
          rw [show ((128 + 1 : Nat) : Int) = 129 from rfl] at cbig
          go_wp2_with fail
          cases WN
          · refine wp_region_held_drew (S := (fun w' => w'.heap[w.heap.size]? = some (.cells X 25 (0, 0)) ∧ w'.heap[w.heap.size + 1]? = some (.cells Y 25 (0, 0)))) (by kernel_rfl) ?_ (fun hHeld => ?_)
            · exact HS3.out
            refine wpAnyH_take (i := 0) (oi := ⟨some 42, _, _, _, _, _⟩) (v := .agg X) rfl (by kernel_rfl) (by kernel_rfl) (by kernel_rfl) (fun _ _ _ h => h) (yields_row (by rfl) 25 (.tmp 4) (by rfl) _ (by rfl) X (fun w hw => span_ad h hw.1)) hHeld ?_
            try simp only [Act.put, List.setIfInBounds_toArray, List.set_cons_zero, List.set_cons_succ]
            refine wpAnyH_take (i := 1) (oi := ⟨some 43, _, _, _, _, _⟩) (v := .agg Y) rfl (by kernel_rfl) (by kernel_rfl) (by kernel_rfl) (fun _ _ _ h => h) (yields_row (by rfl) 25 (.tmp 5) (by rfl) _ (by rfl) Y (fun w hw => span_ad h' hw.2)) hHeld ?_
            try simp only [Act.put, List.setIfInBounds_toArray, List.set_cons_zero, List.set_cons_succ]
            refine wpAnyH_ready (rs := [2]) (by kernel_rfl) (by simp) ?_
            refine AllReadyH.cons (o := ⟨some 44, _, _, _, _, _⟩) rfl (fun K hK => ?_) AllReadyH.nil
            go_simp
            go_at_call 26
            refine (c0.out _).mono ?_
            rintro e w20 ⟨rfl, hb20⟩
            have HB20 : Hid (Below w3.heap.size w3 w20) := hide (below_undrew' hb20)
            dsimp only
            refine hK.out _ _ (rows2 HB20.out L3.out HS3.out) (fun hHeld => ?_)
            clear hK K hb20
            try simp only [Act.put, List.setIfInBounds_toArray, List.set_cons_zero, List.set_cons_succ]
            refine wpAnyH_take (i := 3) (oi := ⟨some 45, _, _, _, _, _⟩) (v := .bool true) rfl (by kernel_rfl) (by kernel_rfl) (by kernel_rfl) (fun _ _ _ h => h) (Or.inl ⟨by rfl, fun w hw => by (clear hw; go_simp; try rfl)⟩) hHeld ?_
            try simp only [Act.put, List.setIfInBounds_toArray, List.set_cons_zero, List.set_cons_succ]
            refine wpAnyH_take (i := 4) (oi := ⟨some 46, _, _, _, _, _⟩) (v := .agg X) rfl (by kernel_rfl) (by kernel_rfl) (by kernel_rfl) (fun _ _ _ h => h) (yields_row (by rfl) 25 (.tmp 4) (by rfl) _ (by rfl) X (fun w hw => span_ad h hw.1)) hHeld ?_
            try simp only [Act.put, List.setIfInBounds_toArray, List.set_cons_zero, List.set_cons_succ]
            refine wpAnyH_take (i := 5) (oi := ⟨some 47, _, _, _, _, _⟩) (v := .agg Y) rfl (by kernel_rfl) (by kernel_rfl) (by kernel_rfl) (fun _ _ _ h => h) (yields_row (by rfl) 25 (.tmp 5) (by rfl) _ (by rfl) Y (fun w hw => span_ad h' hw.2)) hHeld ?_
            try simp only [Act.put, List.setIfInBounds_toArray, List.set_cons_zero, List.set_cons_succ]
            refine wpAnyH_take (i := 6) (oi := ⟨some 48, _, _, _, _, _⟩) (v := .int .i64 128) rfl (by kernel_rfl) (by kernel_rfl) (by kernel_rfl) (fun _ _ _ h => h) (Or.inl ⟨by rfl, fun w hw => by (clear hw; go_simp; try rfl)⟩) hHeld ?_
            try simp only [Act.put, List.setIfInBounds_toArray, List.set_cons_zero, List.set_cons_succ]
            refine wpAnyH_take (i := 8) (oi := ⟨some 50, _, _, _, _, _⟩) (v := .agg X) rfl (by kernel_rfl) (by kernel_rfl) (by kernel_rfl) (fun _ _ _ h => h) (yields_row (by rfl) 25 (.tmp 4) (by rfl) _ (by rfl) X (fun w hw => span_ad h hw.1)) hHeld ?_
            try simp only [Act.put, List.setIfInBounds_toArray, List.set_cons_zero, List.set_cons_succ]
            refine wpAnyH_take (i := 9) (oi := ⟨some 51, _, _, _, _, _⟩) (v := .agg Y) rfl (by kernel_rfl) (by kernel_rfl) (by kernel_rfl) (fun _ _ _ h => h) (yields_row (by rfl) 25 (.tmp 5) (by rfl) _ (by rfl) Y (fun w hw => span_ad h' hw.2)) hHeld ?_
            try simp only [Act.put, List.setIfInBounds_toArray, List.set_cons_zero, List.set_cons_succ]
            refine wpAnyH_take (i := 10) (oi := ⟨some 52, _, _, _, _, _⟩) (v := .bool EQB) rfl (by kernel_rfl) (by kernel_rfl) (by kernel_rfl) (fun _ _ _ h => h) (Or.inl ⟨by rfl, fun w hw => by (clear hw; go_simp; try rfl)⟩) hHeld ?_
            try simp only [Act.put, List.setIfInBounds_toArray, List.set_cons_zero, List.set_cons_succ]
            refine wpAnyH_ready (rs := [7]) (by kernel_rfl) (by simp) ?_
            refine AllReadyH.cons (o := ⟨some 49, _, _, _, _, _⟩) rfl (fun K hK => ?_) AllReadyH.nil
            go_simp
            go_at_call 26
            refine (call.out _).mono ?_
            rintro e w21 ⟨rfl, hb21⟩
            have HB21 : Hid (Below w3.heap.size w3 w21) := hide (HB20.out.trans (hb21.mono HB20.out.size))
            dsimp only
            refine hK.out _ _ (rows2 HB21.out L3.out HS3.out) (fun hHeld => ?_)
            clear hK K hb21
            try simp only [Act.put, List.setIfInBounds_toArray, List.set_cons_zero, List.set_cons_succ]
            refine wpAnyH_take (i := 11) (oi := ⟨some 53, _, _, _, _, _⟩) (v := .bool true) rfl (by kernel_rfl) (by kernel_rfl) (by kernel_rfl) (fun _ _ _ h => h) (Or.inl ⟨by rfl, fun w hw => by (clear hw; go_simp; try rfl)⟩) hHeld ?_
            try simp only [Act.put, List.setIfInBounds_toArray, List.set_cons_zero, List.set_cons_succ]
            refine wpAnyH_take (i := 12) (oi := ⟨some 54, _, _, _, _, _⟩) (v := .bool true) rfl (by kernel_rfl) (by kernel_rfl) (by kernel_rfl) (fun _ _ _ h => h) (Or.inl ⟨by rfl, fun w hw => by (clear hw; go_simp; try rfl)⟩) hHeld ?_
            try simp only [Act.put, List.setIfInBounds_toArray, List.set_cons_zero, List.set_cons_succ]
            refine wpAnyH_take (i := 13) (oi := ⟨some 55, _, _, _, _, _⟩) (v := .bool true) rfl (by kernel_rfl) (by kernel_rfl) (by kernel_rfl) (fun _ _ _ h => h) (Or.inl ⟨by rfl, fun w hw => by (clear hw; go_simp; try rfl)⟩) hHeld ?_
            try simp only [Act.put, List.setIfInBounds_toArray, List.set_cons_zero, List.set_cons_succ]
            refine wpAnyH_take (i := 14) (oi := ⟨some 56, _, _, _, _, _⟩) (v := .agg X) rfl (by kernel_rfl) (by kernel_rfl) (by kernel_rfl) (fun _ _ _ h => h) (yields_row (by rfl) 25 (.tmp 4) (by rfl) _ (by rfl) X (fun w hw => span_ad h hw.1)) hHeld ?_
            try simp only [Act.put, List.setIfInBounds_toArray, List.set_cons_zero, List.set_cons_succ]
            refine wpAnyH_take (i := 15) (oi := ⟨some 57, _, _, _, _, _⟩) (v := .agg Y) rfl (by kernel_rfl) (by kernel_rfl) (by kernel_rfl) (fun _ _ _ h => h) (yields_row (by rfl) 25 (.tmp 5) (by rfl) _ (by rfl) Y (fun w hw => span_ad h' hw.2)) hHeld ?_
            try simp only [Act.put, List.setIfInBounds_toArray, List.set_cons_zero, List.set_cons_succ]
            refine wpAnyH_take (i := 16) (oi := ⟨some 58, _, _, _, _, _⟩) (v := .int .i64 (n1 : Int)) rfl (by kernel_rfl) (by kernel_rfl) (by kernel_rfl) (fun _ _ _ h => h) (Or.inl ⟨by rfl, fun w hw => by (clear hw; go_simp; try rfl)⟩) hHeld ?_
            try simp only [Act.put, List.setIfInBounds_toArray, List.set_cons_zero, List.set_cons_succ]
            refine wpAnyH_ready (rs := [17]) (by kernel_rfl) (by simp) ?_
            refine AllReadyH.cons (o := ⟨some 59, _, _, _, _, _⟩) rfl (fun K hK => ?_) AllReadyH.nil
            go_simp
            go_at_call 26
            refine (cn.out _).mono ?_
            rintro e w22 ⟨rfl, hb22⟩
            have HB22 : Hid (Below w3.heap.size w3 w22) := hide (HB21.out.trans (hb22.mono HB21.out.size))
            dsimp only
            refine hK.out _ _ (rows2 HB22.out L3.out HS3.out) (fun hHeld => ?_)
            clear hK K hb22
            try simp only [Act.put, List.setIfInBounds_toArray, List.set_cons_zero, List.set_cons_succ]
            refine wpAnyH_take (i := 18) (oi := ⟨some 60, _, _, _, _, _⟩) (v := .bool true) rfl (by kernel_rfl) (by kernel_rfl) (by kernel_rfl) (fun _ _ _ h => h) (Or.inl ⟨by rfl, fun w hw => by (clear hw; go_simp; try rfl)⟩) hHeld ?_
            try simp only [Act.put, List.setIfInBounds_toArray, List.set_cons_zero, List.set_cons_succ]
            refine wpAnyH_take (i := 19) (oi := ⟨some 61, _, _, _, _, _⟩) (v := .bool true) rfl (by kernel_rfl) (by kernel_rfl) (by kernel_rfl) (fun _ _ _ h => h) (Or.inl ⟨by rfl, fun w hw => by (clear hw; go_simp; try rfl)⟩) hHeld ?_
            try simp only [Act.put, List.setIfInBounds_toArray, List.set_cons_zero, List.set_cons_succ]
            refine wpAnyH_take (i := 20) (oi := ⟨some 62, _, _, _, _, _⟩) (v := undef) rfl (by kernel_rfl) (by kernel_rfl) (by kernel_rfl) (fun _ _ _ h => h) (Or.inr ⟨by rfl, rfl⟩) hHeld ?_
            try simp only [Act.put, List.setIfInBounds_toArray, List.set_cons_zero, List.set_cons_succ]
            refine wpAnyH_take (i := 21) (oi := ⟨some 63, _, _, _, _, _⟩) (v := undef) rfl (by kernel_rfl) (by kernel_rfl) (by kernel_rfl) (fun _ _ _ h => h) (Or.inr ⟨by rfl, rfl⟩) hHeld ?_
            try simp only [Act.put, List.setIfInBounds_toArray, List.set_cons_zero, List.set_cons_succ]
            refine wpAnyH_take (i := 22) (oi := ⟨some 64, _, _, _, _, _⟩) (v := undef) rfl (by kernel_rfl) (by kernel_rfl) (by kernel_rfl) (fun _ _ _ h => h) (Or.inr ⟨by rfl, rfl⟩) hHeld ?_
            try simp only [Act.put, List.setIfInBounds_toArray, List.set_cons_zero, List.set_cons_succ]
            refine wpAnyH_take (i := 23) (oi := ⟨some 65, _, _, _, _, _⟩) (v := undef) rfl (by kernel_rfl) (by kernel_rfl) (by kernel_rfl) (fun _ _ _ h => h) (Or.inr ⟨by rfl, rfl⟩) hHeld ?_
            try simp only [Act.put, List.setIfInBounds_toArray, List.set_cons_zero, List.set_cons_succ]
            refine wpAnyH_take (i := 24) (oi := ⟨some 66, _, _, _, _, _⟩) (v := .bool true) rfl (by kernel_rfl) (by kernel_rfl) (by kernel_rfl) (fun _ _ _ h => h) (Or.inl ⟨by rfl, fun w hw => by (clear hw; go_simp; try rfl)⟩) hHeld ?_
            try simp only [Act.put, List.setIfInBounds_toArray, List.set_cons_zero, List.set_cons_succ]
            refine wpAnyH_take (i := 25) (oi := ⟨some 67, _, _, _, _, _⟩) (v := .bool true) rfl (by kernel_rfl) (by kernel_rfl) (by kernel_rfl) (fun _ _ _ h => h) (Or.inl ⟨by rfl, fun w hw => by (clear hw; go_simp; try rfl)⟩) hHeld ?_
            try simp only [Act.put, List.setIfInBounds_toArray, List.set_cons_zero, List.set_cons_succ]
            refine wpAnyH_take (i := 26) (oi := ⟨some 68, _, _, _, _, _⟩) (v := .bool true) rfl (by kernel_rfl) (by kernel_rfl) (by kernel_rfl) (fun _ _ _ h => h) (Or.inl ⟨by rfl, fun w hw => by (clear hw; go_simp; try rfl)⟩) hHeld ?_
            try simp only [Act.put, List.setIfInBounds_toArray, List.set_cons_zero, List.set_cons_succ]
            refine wpAnyH_take (i := 27) (oi := ⟨some 69, _, _, _, _, _⟩) (v := .agg X) rfl (by kernel_rfl) (by kernel_rfl) (by kernel_rfl) (fun _ _ _ h => h) (yields_row (by rfl) 25 (.tmp 4) (by rfl) _ (by rfl) X (fun w hw => span_ad h hw.1)) hHeld ?_
            try simp only [Act.put, List.setIfInBounds_toArray, List.set_cons_zero, List.set_cons_succ]
            refine wpAnyH_take (i := 28) (oi := ⟨some 70, _, _, _, _, _⟩) (v := .agg Y) rfl (by kernel_rfl) (by kernel_rfl) (by kernel_rfl) (fun _ _ _ h => h) (yields_row (by rfl) 25 (.tmp 5) (by rfl) _ (by rfl) Y (fun w hw => span_ad h' hw.2)) hHeld ?_
            try simp only [Act.put, List.setIfInBounds_toArray, List.set_cons_zero, List.set_cons_succ]
            refine wpAnyH_ready (rs := [29]) (by kernel_rfl) (by simp) ?_
            refine AllReadyH.cons (o := ⟨some 71, _, _, _, _, _⟩) rfl (fun K hK => ?_) AllReadyH.nil
            go_simp
            go_at_call 26
            refine (cneg.out _).mono ?_
            rintro e w24 ⟨rfl, hb24⟩
            have HB24 : Hid (Below w3.heap.size w3 w24) := hide (HB22.out.trans (hb24.mono HB22.out.size))
            dsimp only
            refine hK.out _ _ (rows2 HB24.out L3.out HS3.out) (fun hHeld => ?_)
            clear hK K hb24
            try simp only [Act.put, List.setIfInBounds_toArray, List.set_cons_zero, List.set_cons_succ]
            refine wpAnyH_take (i := 30) (oi := ⟨some 72, _, _, _, _, _⟩) (v := .bool true) rfl (by kernel_rfl) (by kernel_rfl) (by kernel_rfl) (fun _ _ _ h => h) (Or.inl ⟨by rfl, fun w hw => by (clear hw; go_simp; try rfl)⟩) hHeld ?_
            try simp only [Act.put, List.setIfInBounds_toArray, List.set_cons_zero, List.set_cons_succ]
            refine wpAnyH_take (i := 31) (oi := ⟨some 73, _, _, _, _, _⟩) (v := .bool true) rfl (by kernel_rfl) (by kernel_rfl) (by kernel_rfl) (fun _ _ _ h => h) (Or.inl ⟨by rfl, fun w hw => by (clear hw; go_simp; try rfl)⟩) hHeld ?_
            try simp only [Act.put, List.setIfInBounds_toArray, List.set_cons_zero, List.set_cons_succ]
            refine wpAnyH_take (i := 32) (oi := ⟨some 74, _, _, _, _, _⟩) (v := .bool true) rfl (by kernel_rfl) (by kernel_rfl) (by kernel_rfl) (fun _ _ _ h => h) (Or.inl ⟨by rfl, fun w hw => by (clear hw; go_simp; try rfl)⟩) hHeld ?_
            try simp only [Act.put, List.setIfInBounds_toArray, List.set_cons_zero, List.set_cons_succ]
            refine wpAnyH_take (i := 33) (oi := ⟨some 75, _, _, _, _, _⟩) (v := .agg X) rfl (by kernel_rfl) (by kernel_rfl) (by kernel_rfl) (fun _ _ _ h => h) (yields_row (by rfl) 25 (.tmp 4) (by rfl) _ (by rfl) X (fun w hw => span_ad h hw.1)) hHeld ?_
            try simp only [Act.put, List.setIfInBounds_toArray, List.set_cons_zero, List.set_cons_succ]
            refine wpAnyH_take (i := 34) (oi := ⟨some 76, _, _, _, _, _⟩) (v := .agg Y) rfl (by kernel_rfl) (by kernel_rfl) (by kernel_rfl) (fun _ _ _ h => h) (yields_row (by rfl) 25 (.tmp 5) (by rfl) _ (by rfl) Y (fun w hw => span_ad h' hw.2)) hHeld ?_
            try simp only [Act.put, List.setIfInBounds_toArray, List.set_cons_zero, List.set_cons_succ]
            refine wpAnyH_take (i := 35) (oi := ⟨some 77, _, _, _, _, _⟩) (v := .int .i64 128) rfl (by kernel_rfl) (by kernel_rfl) (by kernel_rfl) (fun _ _ _ h => h) (Or.inl ⟨by rfl, fun w hw => by (clear hw; go_simp; try rfl)⟩) hHeld ?_
            try simp only [Act.put, List.setIfInBounds_toArray, List.set_cons_zero, List.set_cons_succ]
            refine wpAnyH_take (i := 36) (oi := ⟨some 78, _, _, _, _, _⟩) (v := .int .i64 129) rfl (by kernel_rfl) (by kernel_rfl) (by kernel_rfl) (fun _ _ _ h => h) (Or.inl ⟨by rfl, fun w hw => by (clear hw; go_simp; try rfl)⟩) hHeld ?_
            try simp only [Act.put, List.setIfInBounds_toArray, List.set_cons_zero, List.set_cons_succ]
            refine wpAnyH_ready (rs := [37]) (by kernel_rfl) (by simp) ?_
            refine AllReadyH.cons (o := ⟨some 79, _, _, _, _, _⟩) rfl (fun K hK => ?_) AllReadyH.nil
            go_simp
            go_at_call 26
            refine (cbig.out _).mono ?_
            rintro e w25 ⟨rfl, hb25⟩
            have HB25 : Hid (Below w3.heap.size w3 w25) := hide (HB24.out.trans (hb25.mono HB24.out.size))
            dsimp only
            refine hK.out _ _ (rows2 HB25.out L3.out HS3.out) (fun hHeld => ?_)
            clear hK K hb25
            try simp only [Act.put, List.setIfInBounds_toArray, List.set_cons_zero, List.set_cons_succ]
            refine wpAnyH_take (i := 38) (oi := ⟨some 80, _, _, _, _, _⟩) (v := .bool true) rfl (by kernel_rfl) (by kernel_rfl) (by kernel_rfl) (fun _ _ _ h => h) (Or.inl ⟨by rfl, fun w hw => by (clear hw; go_simp; try rfl)⟩) hHeld ?_
            try simp only [Act.put, List.setIfInBounds_toArray, List.set_cons_zero, List.set_cons_succ]
            refine wpAnyH_take (i := 39) (oi := ⟨some 81, _, _, _, _, _⟩) (v := .bool true) rfl (by kernel_rfl) (by kernel_rfl) (by kernel_rfl) (fun _ _ _ h => h) (Or.inl ⟨by rfl, fun w hw => by (clear hw; go_simp; try rfl)⟩) hHeld ?_
            try simp only [Act.put, List.setIfInBounds_toArray, List.set_cons_zero, List.set_cons_succ]
            refine wpAnyH_take (i := 40) (oi := ⟨some 82, _, _, _, _, _⟩) (v := .bool true) rfl (by kernel_rfl) (by kernel_rfl) (by kernel_rfl) (fun _ _ _ h => h) (Or.inl ⟨by rfl, fun w hw => by (clear hw; go_simp; try rfl)⟩) hHeld ?_
            try simp only [Act.put, List.setIfInBounds_toArray, List.set_cons_zero, List.set_cons_succ]
            refine wpAnyH_ready (rs := [41]) (by kernel_rfl) (by simp) ?_
            refine AllReadyH.cons (o := ⟨some 83, _, _, _, _, _⟩) rfl (fun K hK => ?_) AllReadyH.nil
            go_simp
            go_at_call 21
            refine (hkn.out _).mono ?_
            rintro e w26 ⟨rfl, hb26⟩
            have HB26 : Hid (Below w3.heap.size w3 w26) := hide (HB25.out.trans (hb26.mono HB25.out.size))
            dsimp only
            refine hK.out _ _ (rows2 HB26.out L3.out HS3.out) (fun hHeld => ?_)
            clear hK K hb26
            try simp only [Act.put, List.setIfInBounds_toArray, List.set_cons_zero, List.set_cons_succ]
            refine wpAnyH_take (i := 42) (oi := ⟨some 84, _, _, _, _, _⟩) (v := .bool true) rfl (by kernel_rfl) (by kernel_rfl) (by kernel_rfl) (fun _ _ _ h => h) (Or.inl ⟨by rfl, fun w hw => by (clear hw; go_simp; try rfl)⟩) hHeld ?_
            try simp only [Act.put, List.setIfInBounds_toArray, List.set_cons_zero, List.set_cons_succ]
            refine wpAnyH_take (i := 43) (oi := ⟨some 8, _, _, _, _, _⟩) (v := .bool true) rfl (by kernel_rfl) (by kernel_rfl) (by kernel_rfl) (fun _ _ _ h => h) (Or.inl ⟨by rfl, fun w hw => by (clear hw; go_simp; try rfl)⟩) hHeld ?_
            try simp only [Act.put, List.setIfInBounds_toArray, List.set_cons_zero, List.set_cons_succ]
            refine wpAnyH_done (by kernel_rfl) ?_ _
            go_wp2
            go_ret
            exact ⟨rfl, hB.out.trans ((HB3.out.trans (HB26.out.mono HB3.out.size)).mono (by have := hlt.out; omega))⟩
          · rw [hlow.out HWN.out.symm] at cm
            refine wp_region_held_drew (S := (fun w' => w'.heap[w.heap.size]? = some (.cells X 25 (0, 0)) ∧ w'.heap[w.heap.size + 1]? = some (.cells Y 25 (0, 0)))) (by kernel_rfl) ?_ (fun hHeld => ?_)
            · exact HS3.out
            refine wpAnyH_take (i := 0) (oi := ⟨some 42, _, _, _, _, _⟩) (v := .agg X) rfl (by kernel_rfl) (by kernel_rfl) (by kernel_rfl) (fun _ _ _ h => h) (yields_row (by rfl) 25 (.tmp 4) (by rfl) _ (by rfl) X (fun w hw => span_ad h hw.1)) hHeld ?_
            try simp only [Act.put, List.setIfInBounds_toArray, List.set_cons_zero, List.set_cons_succ]
            refine wpAnyH_take (i := 1) (oi := ⟨some 43, _, _, _, _, _⟩) (v := .agg Y) rfl (by kernel_rfl) (by kernel_rfl) (by kernel_rfl) (fun _ _ _ h => h) (yields_row (by rfl) 25 (.tmp 5) (by rfl) _ (by rfl) Y (fun w hw => span_ad h' hw.2)) hHeld ?_
            try simp only [Act.put, List.setIfInBounds_toArray, List.set_cons_zero, List.set_cons_succ]
            refine wpAnyH_ready (rs := [2]) (by kernel_rfl) (by simp) ?_
            refine AllReadyH.cons (o := ⟨some 44, _, _, _, _, _⟩) rfl (fun K hK => ?_) AllReadyH.nil
            go_simp
            go_at_call 26
            refine (c0.out _).mono ?_
            rintro e w20 ⟨rfl, hb20⟩
            have HB20 : Hid (Below w3.heap.size w3 w20) := hide (below_undrew' hb20)
            dsimp only
            refine hK.out _ _ (rows2 HB20.out L3.out HS3.out) (fun hHeld => ?_)
            clear hK K hb20
            try simp only [Act.put, List.setIfInBounds_toArray, List.set_cons_zero, List.set_cons_succ]
            refine wpAnyH_take (i := 3) (oi := ⟨some 45, _, _, _, _, _⟩) (v := .bool true) rfl (by kernel_rfl) (by kernel_rfl) (by kernel_rfl) (fun _ _ _ h => h) (Or.inl ⟨by rfl, fun w hw => by (clear hw; go_simp; try rfl)⟩) hHeld ?_
            try simp only [Act.put, List.setIfInBounds_toArray, List.set_cons_zero, List.set_cons_succ]
            refine wpAnyH_take (i := 4) (oi := ⟨some 46, _, _, _, _, _⟩) (v := .agg X) rfl (by kernel_rfl) (by kernel_rfl) (by kernel_rfl) (fun _ _ _ h => h) (yields_row (by rfl) 25 (.tmp 4) (by rfl) _ (by rfl) X (fun w hw => span_ad h hw.1)) hHeld ?_
            try simp only [Act.put, List.setIfInBounds_toArray, List.set_cons_zero, List.set_cons_succ]
            refine wpAnyH_take (i := 5) (oi := ⟨some 47, _, _, _, _, _⟩) (v := .agg Y) rfl (by kernel_rfl) (by kernel_rfl) (by kernel_rfl) (fun _ _ _ h => h) (yields_row (by rfl) 25 (.tmp 5) (by rfl) _ (by rfl) Y (fun w hw => span_ad h' hw.2)) hHeld ?_
            try simp only [Act.put, List.setIfInBounds_toArray, List.set_cons_zero, List.set_cons_succ]
            refine wpAnyH_take (i := 6) (oi := ⟨some 48, _, _, _, _, _⟩) (v := .int .i64 128) rfl (by kernel_rfl) (by kernel_rfl) (by kernel_rfl) (fun _ _ _ h => h) (Or.inl ⟨by rfl, fun w hw => by (clear hw; go_simp; try rfl)⟩) hHeld ?_
            try simp only [Act.put, List.setIfInBounds_toArray, List.set_cons_zero, List.set_cons_succ]
            refine wpAnyH_take (i := 8) (oi := ⟨some 50, _, _, _, _, _⟩) (v := .agg X) rfl (by kernel_rfl) (by kernel_rfl) (by kernel_rfl) (fun _ _ _ h => h) (yields_row (by rfl) 25 (.tmp 4) (by rfl) _ (by rfl) X (fun w hw => span_ad h hw.1)) hHeld ?_
            try simp only [Act.put, List.setIfInBounds_toArray, List.set_cons_zero, List.set_cons_succ]
            refine wpAnyH_take (i := 9) (oi := ⟨some 51, _, _, _, _, _⟩) (v := .agg Y) rfl (by kernel_rfl) (by kernel_rfl) (by kernel_rfl) (fun _ _ _ h => h) (yields_row (by rfl) 25 (.tmp 5) (by rfl) _ (by rfl) Y (fun w hw => span_ad h' hw.2)) hHeld ?_
            try simp only [Act.put, List.setIfInBounds_toArray, List.set_cons_zero, List.set_cons_succ]
            refine wpAnyH_take (i := 10) (oi := ⟨some 52, _, _, _, _, _⟩) (v := .bool EQB) rfl (by kernel_rfl) (by kernel_rfl) (by kernel_rfl) (fun _ _ _ h => h) (Or.inl ⟨by rfl, fun w hw => by (clear hw; go_simp; try rfl)⟩) hHeld ?_
            try simp only [Act.put, List.setIfInBounds_toArray, List.set_cons_zero, List.set_cons_succ]
            refine wpAnyH_ready (rs := [7]) (by kernel_rfl) (by simp) ?_
            refine AllReadyH.cons (o := ⟨some 49, _, _, _, _, _⟩) rfl (fun K hK => ?_) AllReadyH.nil
            go_simp
            go_at_call 26
            refine (call.out _).mono ?_
            rintro e w21 ⟨rfl, hb21⟩
            have HB21 : Hid (Below w3.heap.size w3 w21) := hide (HB20.out.trans (hb21.mono HB20.out.size))
            dsimp only
            refine hK.out _ _ (rows2 HB21.out L3.out HS3.out) (fun hHeld => ?_)
            clear hK K hb21
            try simp only [Act.put, List.setIfInBounds_toArray, List.set_cons_zero, List.set_cons_succ]
            refine wpAnyH_take (i := 11) (oi := ⟨some 53, _, _, _, _, _⟩) (v := .bool true) rfl (by kernel_rfl) (by kernel_rfl) (by kernel_rfl) (fun _ _ _ h => h) (Or.inl ⟨by rfl, fun w hw => by (clear hw; go_simp; try rfl)⟩) hHeld ?_
            try simp only [Act.put, List.setIfInBounds_toArray, List.set_cons_zero, List.set_cons_succ]
            refine wpAnyH_take (i := 12) (oi := ⟨some 54, _, _, _, _, _⟩) (v := .bool true) rfl (by kernel_rfl) (by kernel_rfl) (by kernel_rfl) (fun _ _ _ h => h) (Or.inl ⟨by rfl, fun w hw => by (clear hw; go_simp; try rfl)⟩) hHeld ?_
            try simp only [Act.put, List.setIfInBounds_toArray, List.set_cons_zero, List.set_cons_succ]
            refine wpAnyH_take (i := 13) (oi := ⟨some 55, _, _, _, _, _⟩) (v := .bool true) rfl (by kernel_rfl) (by kernel_rfl) (by kernel_rfl) (fun _ _ _ h => h) (Or.inl ⟨by rfl, fun w hw => by (clear hw; go_simp; try rfl)⟩) hHeld ?_
            try simp only [Act.put, List.setIfInBounds_toArray, List.set_cons_zero, List.set_cons_succ]
            refine wpAnyH_take (i := 14) (oi := ⟨some 56, _, _, _, _, _⟩) (v := .agg X) rfl (by kernel_rfl) (by kernel_rfl) (by kernel_rfl) (fun _ _ _ h => h) (yields_row (by rfl) 25 (.tmp 4) (by rfl) _ (by rfl) X (fun w hw => span_ad h hw.1)) hHeld ?_
            try simp only [Act.put, List.setIfInBounds_toArray, List.set_cons_zero, List.set_cons_succ]
            refine wpAnyH_take (i := 15) (oi := ⟨some 57, _, _, _, _, _⟩) (v := .agg Y) rfl (by kernel_rfl) (by kernel_rfl) (by kernel_rfl) (fun _ _ _ h => h) (yields_row (by rfl) 25 (.tmp 5) (by rfl) _ (by rfl) Y (fun w hw => span_ad h' hw.2)) hHeld ?_
            try simp only [Act.put, List.setIfInBounds_toArray, List.set_cons_zero, List.set_cons_succ]
            refine wpAnyH_take (i := 16) (oi := ⟨some 58, _, _, _, _, _⟩) (v := .int .i64 (n1 : Int)) rfl (by kernel_rfl) (by kernel_rfl) (by kernel_rfl) (fun _ _ _ h => h) (Or.inl ⟨by rfl, fun w hw => by (clear hw; go_simp; try rfl)⟩) hHeld ?_
            try simp only [Act.put, List.setIfInBounds_toArray, List.set_cons_zero, List.set_cons_succ]
            refine wpAnyH_ready (rs := [17]) (by kernel_rfl) (by simp) ?_
            refine AllReadyH.cons (o := ⟨some 59, _, _, _, _, _⟩) rfl (fun K hK => ?_) AllReadyH.nil
            go_simp
            go_at_call 26
            refine (cn.out _).mono ?_
            rintro e w22 ⟨rfl, hb22⟩
            have HB22 : Hid (Below w3.heap.size w3 w22) := hide (HB21.out.trans (hb22.mono HB21.out.size))
            dsimp only
            refine hK.out _ _ (rows2 HB22.out L3.out HS3.out) (fun hHeld => ?_)
            clear hK K hb22
            try simp only [Act.put, List.setIfInBounds_toArray, List.set_cons_zero, List.set_cons_succ]
            refine wpAnyH_take (i := 18) (oi := ⟨some 60, _, _, _, _, _⟩) (v := .bool false) rfl (by kernel_rfl) (by kernel_rfl) (by kernel_rfl) (fun _ _ _ h => h) (Or.inl ⟨by rfl, fun w hw => by (clear hw; go_simp; try rfl)⟩) hHeld ?_
            try simp only [Act.put, List.setIfInBounds_toArray, List.set_cons_zero, List.set_cons_succ]
            refine wpAnyH_take (i := 19) (oi := ⟨some 61, _, _, _, _, _⟩) (v := .bool false) rfl (by kernel_rfl) (by kernel_rfl) (by kernel_rfl) (fun _ _ _ h => h) (Or.inl ⟨by rfl, fun w hw => by (clear hw; go_simp; try rfl)⟩) hHeld ?_
            try simp only [Act.put, List.setIfInBounds_toArray, List.set_cons_zero, List.set_cons_succ]
            refine wpAnyH_take (i := 20) (oi := ⟨some 62, _, _, _, _, _⟩) (v := .agg X) rfl (by kernel_rfl) (by kernel_rfl) (by kernel_rfl) (fun _ _ _ h => h) (yields_row (by rfl) 25 (.tmp 4) (by rfl) _ (by rfl) X (fun w hw => span_ad h hw.1)) hHeld ?_
            try simp only [Act.put, List.setIfInBounds_toArray, List.set_cons_zero, List.set_cons_succ]
            refine wpAnyH_take (i := 21) (oi := ⟨some 63, _, _, _, _, _⟩) (v := .agg Y) rfl (by kernel_rfl) (by kernel_rfl) (by kernel_rfl) (fun _ _ _ h => h) (yields_row (by rfl) 25 (.tmp 5) (by rfl) _ (by rfl) Y (fun w hw => span_ad h' hw.2)) hHeld ?_
            try simp only [Act.put, List.setIfInBounds_toArray, List.set_cons_zero, List.set_cons_succ]
            refine wpAnyH_take (i := 22) (oi := ⟨some 64, _, _, _, _, _⟩) (v := .int .i64 (m1 : Int)) rfl (by kernel_rfl) (by kernel_rfl) (by kernel_rfl) (fun _ _ _ h => h) (Or.inl ⟨by rfl, fun w hw => by (clear hw; go_simp; try rfl)⟩) hHeld ?_
            try simp only [Act.put, List.setIfInBounds_toArray, List.set_cons_zero, List.set_cons_succ]
            refine wpAnyH_ready (rs := [23]) (by kernel_rfl) (by simp) ?_
            refine AllReadyH.cons (o := ⟨some 65, _, _, _, _, _⟩) rfl (fun K hK => ?_) AllReadyH.nil
            go_simp
            go_at_call 26
            refine (cm.out _).mono ?_
            rintro e w23 ⟨rfl, hb23⟩
            have HB23 : Hid (Below w3.heap.size w3 w23) := hide (HB22.out.trans (hb23.mono HB22.out.size))
            dsimp only
            refine hK.out _ _ (rows2 HB23.out L3.out HS3.out) (fun hHeld => ?_)
            clear hK K hb23
            try simp only [Act.put, List.setIfInBounds_toArray, List.set_cons_zero, List.set_cons_succ]
            refine wpAnyH_take (i := 24) (oi := ⟨some 66, _, _, _, _, _⟩) (v := .bool true) rfl (by kernel_rfl) (by kernel_rfl) (by kernel_rfl) (fun _ _ _ h => h) (Or.inl ⟨by rfl, fun w hw => by (clear hw; go_simp; try rfl)⟩) hHeld ?_
            try simp only [Act.put, List.setIfInBounds_toArray, List.set_cons_zero, List.set_cons_succ]
            refine wpAnyH_take (i := 25) (oi := ⟨some 67, _, _, _, _, _⟩) (v := .bool true) rfl (by kernel_rfl) (by kernel_rfl) (by kernel_rfl) (fun _ _ _ h => h) (Or.inl ⟨by rfl, fun w hw => by (clear hw; go_simp; try rfl)⟩) hHeld ?_
            try simp only [Act.put, List.setIfInBounds_toArray, List.set_cons_zero, List.set_cons_succ]
            refine wpAnyH_take (i := 26) (oi := ⟨some 68, _, _, _, _, _⟩) (v := .bool true) rfl (by kernel_rfl) (by kernel_rfl) (by kernel_rfl) (fun _ _ _ h => h) (Or.inl ⟨by rfl, fun w hw => by (clear hw; go_simp; try rfl)⟩) hHeld ?_
            try simp only [Act.put, List.setIfInBounds_toArray, List.set_cons_zero, List.set_cons_succ]
            refine wpAnyH_take (i := 27) (oi := ⟨some 69, _, _, _, _, _⟩) (v := .agg X) rfl (by kernel_rfl) (by kernel_rfl) (by kernel_rfl) (fun _ _ _ h => h) (yields_row (by rfl) 25 (.tmp 4) (by rfl) _ (by rfl) X (fun w hw => span_ad h hw.1)) hHeld ?_
            try simp only [Act.put, List.setIfInBounds_toArray, List.set_cons_zero, List.set_cons_succ]
            refine wpAnyH_take (i := 28) (oi := ⟨some 70, _, _, _, _, _⟩) (v := .agg Y) rfl (by kernel_rfl) (by kernel_rfl) (by kernel_rfl) (fun _ _ _ h => h) (yields_row (by rfl) 25 (.tmp 5) (by rfl) _ (by rfl) Y (fun w hw => span_ad h' hw.2)) hHeld ?_
            try simp only [Act.put, List.setIfInBounds_toArray, List.set_cons_zero, List.set_cons_succ]
            refine wpAnyH_ready (rs := [29]) (by kernel_rfl) (by simp) ?_
            refine AllReadyH.cons (o := ⟨some 71, _, _, _, _, _⟩) rfl (fun K hK => ?_) AllReadyH.nil
            go_simp
            go_at_call 26
            refine (cneg.out _).mono ?_
            rintro e w24 ⟨rfl, hb24⟩
            have HB24 : Hid (Below w3.heap.size w3 w24) := hide (HB23.out.trans (hb24.mono HB23.out.size))
            dsimp only
            refine hK.out _ _ (rows2 HB24.out L3.out HS3.out) (fun hHeld => ?_)
            clear hK K hb24
            try simp only [Act.put, List.setIfInBounds_toArray, List.set_cons_zero, List.set_cons_succ]
            refine wpAnyH_take (i := 30) (oi := ⟨some 72, _, _, _, _, _⟩) (v := .bool true) rfl (by kernel_rfl) (by kernel_rfl) (by kernel_rfl) (fun _ _ _ h => h) (Or.inl ⟨by rfl, fun w hw => by (clear hw; go_simp; try rfl)⟩) hHeld ?_
            try simp only [Act.put, List.setIfInBounds_toArray, List.set_cons_zero, List.set_cons_succ]
            refine wpAnyH_take (i := 31) (oi := ⟨some 73, _, _, _, _, _⟩) (v := .bool true) rfl (by kernel_rfl) (by kernel_rfl) (by kernel_rfl) (fun _ _ _ h => h) (Or.inl ⟨by rfl, fun w hw => by (clear hw; go_simp; try rfl)⟩) hHeld ?_
            try simp only [Act.put, List.setIfInBounds_toArray, List.set_cons_zero, List.set_cons_succ]
            refine wpAnyH_take (i := 32) (oi := ⟨some 74, _, _, _, _, _⟩) (v := .bool true) rfl (by kernel_rfl) (by kernel_rfl) (by kernel_rfl) (fun _ _ _ h => h) (Or.inl ⟨by rfl, fun w hw => by (clear hw; go_simp; try rfl)⟩) hHeld ?_
            try simp only [Act.put, List.setIfInBounds_toArray, List.set_cons_zero, List.set_cons_succ]
            refine wpAnyH_take (i := 33) (oi := ⟨some 75, _, _, _, _, _⟩) (v := .agg X) rfl (by kernel_rfl) (by kernel_rfl) (by kernel_rfl) (fun _ _ _ h => h) (yields_row (by rfl) 25 (.tmp 4) (by rfl) _ (by rfl) X (fun w hw => span_ad h hw.1)) hHeld ?_
            try simp only [Act.put, List.setIfInBounds_toArray, List.set_cons_zero, List.set_cons_succ]
            refine wpAnyH_take (i := 34) (oi := ⟨some 76, _, _, _, _, _⟩) (v := .agg Y) rfl (by kernel_rfl) (by kernel_rfl) (by kernel_rfl) (fun _ _ _ h => h) (yields_row (by rfl) 25 (.tmp 5) (by rfl) _ (by rfl) Y (fun w hw => span_ad h' hw.2)) hHeld ?_
            try simp only [Act.put, List.setIfInBounds_toArray, List.set_cons_zero, List.set_cons_succ]
            refine wpAnyH_take (i := 35) (oi := ⟨some 77, _, _, _, _, _⟩) (v := .int .i64 128) rfl (by kernel_rfl) (by kernel_rfl) (by kernel_rfl) (fun _ _ _ h => h) (Or.inl ⟨by rfl, fun w hw => by (clear hw; go_simp; try rfl)⟩) hHeld ?_
            try simp only [Act.put, List.setIfInBounds_toArray, List.set_cons_zero, List.set_cons_succ]
            refine wpAnyH_take (i := 36) (oi := ⟨some 78, _, _, _, _, _⟩) (v := .int .i64 129) rfl (by kernel_rfl) (by kernel_rfl) (by kernel_rfl) (fun _ _ _ h => h) (Or.inl ⟨by rfl, fun w hw => by (clear hw; go_simp; try rfl)⟩) hHeld ?_
            try simp only [Act.put, List.setIfInBounds_toArray, List.set_cons_zero, List.set_cons_succ]
            refine wpAnyH_ready (rs := [37]) (by kernel_rfl) (by simp) ?_
            refine AllReadyH.cons (o := ⟨some 79, _, _, _, _, _⟩) rfl (fun K hK => ?_) AllReadyH.nil
            go_simp
            go_at_call 26
            refine (cbig.out _).mono ?_
            rintro e w25 ⟨rfl, hb25⟩
            have HB25 : Hid (Below w3.heap.size w3 w25) := hide (HB24.out.trans (hb25.mono HB24.out.size))
            dsimp only
            refine hK.out _ _ (rows2 HB25.out L3.out HS3.out) (fun hHeld => ?_)
            clear hK K hb25
            try simp only [Act.put, List.setIfInBounds_toArray, List.set_cons_zero, List.set_cons_succ]
            refine wpAnyH_take (i := 38) (oi := ⟨some 80, _, _, _, _, _⟩) (v := .bool true) rfl (by kernel_rfl) (by kernel_rfl) (by kernel_rfl) (fun _ _ _ h => h) (Or.inl ⟨by rfl, fun w hw => by (clear hw; go_simp; try rfl)⟩) hHeld ?_
            try simp only [Act.put, List.setIfInBounds_toArray, List.set_cons_zero, List.set_cons_succ]
            refine wpAnyH_take (i := 39) (oi := ⟨some 81, _, _, _, _, _⟩) (v := .bool true) rfl (by kernel_rfl) (by kernel_rfl) (by kernel_rfl) (fun _ _ _ h => h) (Or.inl ⟨by rfl, fun w hw => by (clear hw; go_simp; try rfl)⟩) hHeld ?_
            try simp only [Act.put, List.setIfInBounds_toArray, List.set_cons_zero, List.set_cons_succ]
            refine wpAnyH_take (i := 40) (oi := ⟨some 82, _, _, _, _, _⟩) (v := .bool true) rfl (by kernel_rfl) (by kernel_rfl) (by kernel_rfl) (fun _ _ _ h => h) (Or.inl ⟨by rfl, fun w hw => by (clear hw; go_simp; try rfl)⟩) hHeld ?_
            try simp only [Act.put, List.setIfInBounds_toArray, List.set_cons_zero, List.set_cons_succ]
            refine wpAnyH_ready (rs := [41]) (by kernel_rfl) (by simp) ?_
            refine AllReadyH.cons (o := ⟨some 83, _, _, _, _, _⟩) rfl (fun K hK => ?_) AllReadyH.nil
            go_simp
            go_at_call 21
            refine (hkn.out _).mono ?_
            rintro e w26 ⟨rfl, hb26⟩
            have HB26 : Hid (Below w3.heap.size w3 w26) := hide (HB25.out.trans (hb26.mono HB25.out.size))
            dsimp only
            refine hK.out _ _ (rows2 HB26.out L3.out HS3.out) (fun hHeld => ?_)
            clear hK K hb26
            try simp only [Act.put, List.setIfInBounds_toArray, List.set_cons_zero, List.set_cons_succ]
            refine wpAnyH_take (i := 42) (oi := ⟨some 84, _, _, _, _, _⟩) (v := .bool true) rfl (by kernel_rfl) (by kernel_rfl) (by kernel_rfl) (fun _ _ _ h => h) (Or.inl ⟨by rfl, fun w hw => by (clear hw; go_simp; try rfl)⟩) hHeld ?_
            try simp only [Act.put, List.setIfInBounds_toArray, List.set_cons_zero, List.set_cons_succ]
            refine wpAnyH_take (i := 43) (oi := ⟨some 8, _, _, _, _, _⟩) (v := .bool true) rfl (by kernel_rfl) (by kernel_rfl) (by kernel_rfl) (fun _ _ _ h => h) (Or.inl ⟨by rfl, fun w hw => by (clear hw; go_simp; try rfl)⟩) hHeld ?_
            try simp only [Act.put, List.setIfInBounds_toArray, List.set_cons_zero, List.set_cons_succ]
            refine wpAnyH_done (by kernel_rfl) ?_ _
            go_wp2
            go_ret
            exact ⟨rfl, hB.out.trans ((HB3.out.trans (HB26.out.mono HB3.out.size)).mono (by have := hlt.out; omega))⟩
      · rw [within_other (fun e => hv e.2.2)] at c0
        cases v <;> cases v'
        · exact absurd rfl hv
        · clear hv
          go_wp2_with fail
          refine (cr.out _).mono ?_
          rintro e w2 ⟨rfl, hb2⟩
          have HB2 : Hid (Below W.heap.size W w2) := hide hb2
          obtain ⟨hx2, hy2⟩ := rows2 hb2 (by have := hlt.out; omega) HH.out
          have L2 : Hid (w.heap.size < w2.heap.size ∧ w.heap.size + 1 < w2.heap.size) := hide (by have := hlt.out; have := hb2.size; omega)
          clear hb2
          dsimp only
          go_wp2_with fail
          refine (cr'.out _).mono ?_
          rintro e w3 ⟨rfl, hb3⟩
          have HB3 : Hid (Below W.heap.size W w3) := hide (HB2.out.trans (hb3.mono HB2.out.size))
          obtain ⟨hx3, hy3⟩ := rows2 hb3 L2.out ⟨hx2, hy2⟩
          have L3 : Hid (w.heap.size < w3.heap.size ∧ w.heap.size + 1 < w3.heap.size) := hide (by have := L2.out; have := hb3.size; omega)
          have k3 := HK1.out w3 _ hx3
          have k3' := HK2.out w3 _ hy3
          clear hb3 hx2 hy2
          dsimp only
          go_wp2_with fail
          refine (c0.out _).mono ?_
          rintro e w8 ⟨rfl, hb8⟩
          have HB8 : Hid (Below W.heap.size W w8) := hide (HB3.out.trans (hb8.mono HB3.out.size))
          clear hb8
          dsimp only
          go_wp2_with fail
          refine (hkn.out _).mono ?_
          rintro e wk ⟨rfl, hbk⟩
          dsimp only
          go_wp2
          go_ret
          exact ⟨rfl, (hB.out.trans (HB8.out.mono (by have := hlt.out; omega))).trans (hbk.mono (by have := HB8.out.size; have := hlt.out; omega))⟩
        · clear hv
          go_wp2_with fail
          refine (cr.out _).mono ?_
          rintro e w2 ⟨rfl, hb2⟩
          have HB2 : Hid (Below W.heap.size W w2) := hide hb2
          obtain ⟨hx2, hy2⟩ := rows2 hb2 (by have := hlt.out; omega) HH.out
          have L2 : Hid (w.heap.size < w2.heap.size ∧ w.heap.size + 1 < w2.heap.size) := hide (by have := hlt.out; have := hb2.size; omega)
          clear hb2
          dsimp only
          go_wp2_with fail
          refine (cr'.out _).mono ?_
          rintro e w3 ⟨rfl, hb3⟩
          have HB3 : Hid (Below W.heap.size W w3) := hide (HB2.out.trans (hb3.mono HB2.out.size))
          obtain ⟨hx3, hy3⟩ := rows2 hb3 L2.out ⟨hx2, hy2⟩
          have L3 : Hid (w.heap.size < w3.heap.size ∧ w.heap.size + 1 < w3.heap.size) := hide (by have := L2.out; have := hb3.size; omega)
          have k3 := HK1.out w3 _ hx3
          have k3' := HK2.out w3 _ hy3
          clear hb3 hx2 hy2
          dsimp only
          go_wp2_with fail
          refine (c0.out _).mono ?_
          rintro e w8 ⟨rfl, hb8⟩
          have HB8 : Hid (Below W.heap.size W w8) := hide (HB3.out.trans (hb8.mono HB3.out.size))
          clear hb8
          dsimp only
          go_wp2_with fail
          refine (hkn.out _).mono ?_
          rintro e wk ⟨rfl, hbk⟩
          dsimp only
          go_wp2
          go_ret
          exact ⟨rfl, (hB.out.trans (HB8.out.mono (by have := hlt.out; omega))).trans (hbk.mono (by have := HB8.out.size; have := hlt.out; omega))⟩
        · exact absurd rfl hv
end Go.Proofs.Ytmhoedbhfaocjab
