/-
  Flows as the document says: another packet.
-/
import Derived.Test.YtbkipfmnbfjkcaaVf
namespace Go.Proofs.Ytbkipfmnbfjkcaa
open Go.RowKit
set_option maxRecDepth 100000
set_option linter.unusedVariables false
set_option linter.unusedSimpArgs false
attribute [local go_sem ↓] exec_span exec_put exec_build heap_alloc_new heap_old
attribute [local go_sem] spanQ_ptr spanC_some heap_of_drew heap_of_drewN putAt_ptr putOk_ptr oldOk_some World.setRow_alloc_new rs_Flow rs_RFlow built_flow0 built_rflow0 built_flow2 built_flow3 built_rflow3
set_option maxHeartbeats 8000000 in
theorem stepR_any (w : World) (f : Flw) (fl now : Int) (hnow : now ≤ 9223372036854775807) : Calls Try.prog 15 #[flV f, .int .i64 fl, .int .i64 now] w (RetV w (flE (stepF f fl now))) := by
  obtain ⟨p, s, l⟩ := f
  obtain ⟨W, hW, r1, r2, hz, hb⟩ := two_newV w #[.int .i64 p, .int .i64 s, .int .i64 l] #[.int .i64 0, .int .i64 0, .int .i64 0] 23 23
  have KR := hide (fun W => rightFlowR_any W ⟨p, s, l⟩)
  have KL := hide (fun W => liveR_any W ⟨p, s, l⟩ now hnow)
  have KP := hide (fun (h : rightB ⟨p, s, l⟩ = true) W => givenR_any W p fl now (rightB_p h))
  have K4 := hide (fun (h : pktB p fl now = true) (W : World) => has4_any W fl (pktB_fl h).1 (pktB_fl h).2)
  have K1 := hide (fun (h : pktB p fl now = true) (W : World) => has1_any W fl (pktB_fl h).1 (pktB_fl h).2)
  have K16 := hide (fun (h : pktB p fl now = true) (W : World) => has16_any W fl (pktB_fl h).1 (pktB_fl h).2)
  have HT : Hid (turnF s fl = turnB (hasB fl 16) (hasB fl 1) (hasB fl 4) s) := hide rfl
  have HW : Hid (∀ w2, Below W.heap.size W w2 → w2.heap[w.heap.size]? = some (.cells #[.int .i64 p, .int .i64 s, .int .i64 l] 23 (0, 0)) ∧ w2.heap[w.heap.size + 1]? = some (.cells #[.int .i64 0, .int .i64 0, .int .i64 0] 23 (0, 0)) ∧ Below w.heap.size w w2 ∧ w.heap.size + 2 ≤ w2.heap.size) := hide fun w2 hb2 => ⟨(hb2.block _ (by omega)).trans r1, (hb2.block _ (by omega)).trans r2, hb.trans (hb2.mono (by omega)), by have := hb2.size; omega⟩
  have HTR : Hid (∀ w1 w2, Below W.heap.size W w1 → Below w1.heap.size w1 w2 → Below W.heap.size W w2) := hide fun w1 w2 h1 h2 => h1.trans (h2.mono h1.size)
  have C3 := cells3
  have X3 := ext3
  clear hb hz hnow
  obtain ⟨rb, hrb⟩ : ∃ rb, rb = rightB ⟨p, s, l⟩ := ⟨_, rfl⟩
  obtain ⟨lb, hlb⟩ : ∃ lb, lb = liveB ⟨p, s, l⟩ now := ⟨_, rfl⟩
  obtain ⟨pb, hpb⟩ : ∃ pb, pb = pktB p fl now := ⟨_, rfl⟩
  obtain ⟨S, hS⟩ : ∃ S, S = turnF s fl := ⟨_, rfl⟩
  obtain ⟨a, ha⟩ : ∃ a, a = hasB fl 16 := ⟨_, rfl⟩
  obtain ⟨r, hr⟩ : ∃ r, r = hasB fl 4 := ⟨_, rfl⟩
  obtain ⟨f, hf⟩ : ∃ f, f = hasB fl 1 := ⟨_, rfl⟩
  unfold stepF
  dsimp only
  rw [← hrb] at KR KP
  rw [← hlb] at KL
  rw [← hpb] at KP K4 K1 K16
  rw [← hr] at K4 HT
  rw [← hf] at K1 HT
  rw [← ha] at K16 HT
  rw [← hS] at HT
  rw [← hrb, ← hlb, ← hpb, ← hS]
  clear hrb hlb hpb hS ha hr hf
  unfold flV flA at *
  cases rb
  · rw [if_pos (.inl rfl)]
    go_enter Try.func15, Try.ntmps15
    have HB0 := hide (Below.refl W.heap.size W)
    go_wp2_with fail
    go_at_call 17
    with_reducible refine (KR.out _).mono ?_
    rintro e w1 ⟨rfl, hb1⟩
    have HB1 := hide (HTR.out _ _ HB0.out hb1)
    obtain ⟨x1, y1, HX1, hl1⟩ := HW.out _ HB1.out
    have c1 : w1.cell? ⟨w.heap.size, 0, none⟩ = some (.int .i64 p) := (cell_of_row w1 _ 0 _ _ (0, 0) x1).trans rfl
    have d1 : w1.cell? ⟨w.heap.size, 1, none⟩ = some (.int .i64 s) := (cell_of_row w1 _ 1 _ _ (0, 0) x1).trans rfl
    have e1 : w1.cell? ⟨w.heap.size, 2, none⟩ = some (.int .i64 l) := (cell_of_row w1 _ 2 _ _ (0, 0) x1).trans rfl
    have HY1 := hide y1
    have HX1 := hide HX1
    have HL1 := hide hl1
    clear hb1 hl1
    dsimp only
    go_wp2_with fail
    refine bodyPost_ret (results_cell_tmp (fn := Try.f15) Try.results15 _ _ (w.heap.size + 1) 23 _ (0, 0) _ rfl (setRow_heap _ _ _ _ _ _ HY1.out) Try.underlying23 rfl info_rflow) rfl ?_
    exact ⟨rfl, below_setRow HX1.out (Nat.le_succ _) _⟩
  have KP2 := hide (KP.out rfl)
  cases pb
  · rw [if_pos (.inr rfl)]
    go_enter Try.func15, Try.ntmps15
    have HB0 := hide (Below.refl W.heap.size W)
    go_wp2_with fail
    go_at_call 17
    with_reducible refine (KR.out _).mono ?_
    rintro e w1 ⟨rfl, hb1⟩
    have HB1 := hide (HTR.out _ _ HB0.out hb1)
    obtain ⟨x1, y1, HX1, hl1⟩ := HW.out _ HB1.out
    have c1 : w1.cell? ⟨w.heap.size, 0, none⟩ = some (.int .i64 p) := (cell_of_row w1 _ 0 _ _ (0, 0) x1).trans rfl
    have d1 : w1.cell? ⟨w.heap.size, 1, none⟩ = some (.int .i64 s) := (cell_of_row w1 _ 1 _ _ (0, 0) x1).trans rfl
    have e1 : w1.cell? ⟨w.heap.size, 2, none⟩ = some (.int .i64 l) := (cell_of_row w1 _ 2 _ _ (0, 0) x1).trans rfl
    have HY1 := hide y1
    have HX1 := hide HX1
    have HL1 := hide hl1
    clear hb1 hl1
    dsimp only
    go_wp2_with fail
    go_at_call 42
    with_reducible refine (KP2.out _).mono ?_
    rintro e w9 ⟨rfl, rfl⟩
    dsimp only
    go_wp2_with fail
    refine bodyPost_ret (results_cell_tmp (fn := Try.f15) Try.results15 _ _ (w.heap.size + 1) 23 _ (0, 0) _ rfl (setRow_heap _ _ _ _ _ _ HY1.out) Try.underlying23 rfl info_rflow) rfl ?_
    exact ⟨rfl, below_setRow HX1.out (Nat.le_succ _) _⟩
  rw [if_neg (by simp)]
  have K4b := hide (K4.out rfl)
  have K1b := hide (K1.out rfl)
  have K16b := hide (K16.out rfl)
  by_cases hl : now < l
  · rw [if_pos hl]
    go_enter Try.func15, Try.ntmps15
    have HB0 := hide (Below.refl W.heap.size W)
    go_wp2_with fail
    go_at_call 17
    with_reducible refine (KR.out _).mono ?_
    rintro e w1 ⟨rfl, hb1⟩
    have HB1 := hide (HTR.out _ _ HB0.out hb1)
    obtain ⟨x1, y1, HX1, hl1⟩ := HW.out _ HB1.out
    have c1 : w1.cell? ⟨w.heap.size, 0, none⟩ = some (.int .i64 p) := (cell_of_row w1 _ 0 _ _ (0, 0) x1).trans rfl
    have d1 : w1.cell? ⟨w.heap.size, 1, none⟩ = some (.int .i64 s) := (cell_of_row w1 _ 1 _ _ (0, 0) x1).trans rfl
    have e1 : w1.cell? ⟨w.heap.size, 2, none⟩ = some (.int .i64 l) := (cell_of_row w1 _ 2 _ _ (0, 0) x1).trans rfl
    have HY1 := hide y1
    have HX1 := hide HX1
    have HL1 := hide hl1
    clear hb1 hl1
    dsimp only
    go_wp2_with fail
    go_at_call 42
    with_reducible refine (KP2.out _).mono ?_
    rintro e w9 ⟨rfl, rfl⟩
    dsimp only
    go_wp2_with fail
    refine bodyPost_ret (results_cell_tmp (fn := Try.f15) Try.results15 _ _ (w.heap.size + 1) 23 _ (0, 0) _ rfl (setRow_heap _ _ _ _ _ _ HY1.out) Try.underlying23 rfl info_rflow) rfl ?_
    exact ⟨rfl, below_setRow HX1.out (Nat.le_succ _) _⟩
  rw [if_neg hl]
  cases lb
  · rw [if_pos rfl]
    go_enter Try.func15, Try.ntmps15
    have HB0 := hide (Below.refl W.heap.size W)
    go_wp2_with fail
    go_at_call 17
    with_reducible refine (KR.out _).mono ?_
    rintro e w1 ⟨rfl, hb1⟩
    have HB1 := hide (HTR.out _ _ HB0.out hb1)
    obtain ⟨x1, y1, HX1, hl1⟩ := HW.out _ HB1.out
    have c1 : w1.cell? ⟨w.heap.size, 0, none⟩ = some (.int .i64 p) := (cell_of_row w1 _ 0 _ _ (0, 0) x1).trans rfl
    have d1 : w1.cell? ⟨w.heap.size, 1, none⟩ = some (.int .i64 s) := (cell_of_row w1 _ 1 _ _ (0, 0) x1).trans rfl
    have e1 : w1.cell? ⟨w.heap.size, 2, none⟩ = some (.int .i64 l) := (cell_of_row w1 _ 2 _ _ (0, 0) x1).trans rfl
    have HY1 := hide y1
    have HX1 := hide HX1
    have HL1 := hide hl1
    clear hb1 hl1
    dsimp only
    go_wp2_with fail
    go_at_call 42
    with_reducible refine (KP2.out _).mono ?_
    rintro e w9 ⟨rfl, rfl⟩
    dsimp only
    go_wp2_with fail
    go_at_call 19
    with_reducible refine (KL.out _).mono ?_
    rintro e w2 ⟨rfl, hb2⟩
    have HB2 := hide (HTR.out _ _ HB1.out hb2)
    obtain ⟨x2, y2, HX2, hl2⟩ := HW.out _ HB2.out
    have c2 : w2.cell? ⟨w.heap.size, 0, none⟩ = some (.int .i64 p) := (cell_of_row w2 _ 0 _ _ (0, 0) x2).trans rfl
    have d2 : w2.cell? ⟨w.heap.size, 1, none⟩ = some (.int .i64 s) := (cell_of_row w2 _ 1 _ _ (0, 0) x2).trans rfl
    have e2 : w2.cell? ⟨w.heap.size, 2, none⟩ = some (.int .i64 l) := (cell_of_row w2 _ 2 _ _ (0, 0) x2).trans rfl
    have HY2 := hide y2
    have HX2 := hide HX2
    have HL2 := hide hl2
    clear hb2 hl2
    dsimp only
    go_wp2_with fail
    refine bodyPost_ret (results_cell_tmp (fn := Try.f15) Try.results15 _ _ (w.heap.size + 1) 23 _ (0, 0) _ rfl (setRow_heap _ _ _ _ _ _ HY2.out) Try.underlying23 rfl info_rflow) rfl ?_
    exact ⟨rfl, below_setRow HX2.out (Nat.le_succ _) _⟩
  rw [if_neg (by simp)]
  go_enter Try.func15, Try.ntmps15
  have HB0 := hide (Below.refl W.heap.size W)
  go_wp2_with fail
  go_at_call 17
  with_reducible refine (KR.out _).mono ?_
  rintro e w1 ⟨rfl, hb1⟩
  have HB1 := hide (HTR.out _ _ HB0.out hb1)
  obtain ⟨x1, y1, HX1, hl1⟩ := HW.out _ HB1.out
  have c1 : w1.cell? ⟨w.heap.size, 0, none⟩ = some (.int .i64 p) := (cell_of_row w1 _ 0 _ _ (0, 0) x1).trans rfl
  have d1 : w1.cell? ⟨w.heap.size, 1, none⟩ = some (.int .i64 s) := (cell_of_row w1 _ 1 _ _ (0, 0) x1).trans rfl
  have e1 : w1.cell? ⟨w.heap.size, 2, none⟩ = some (.int .i64 l) := (cell_of_row w1 _ 2 _ _ (0, 0) x1).trans rfl
  have HY1 := hide y1
  have HX1 := hide HX1
  have HL1 := hide hl1
  clear hb1 hl1
  dsimp only
  go_wp2_with fail
  go_at_call 42
  with_reducible refine (KP2.out _).mono ?_
  rintro e w9 ⟨rfl, rfl⟩
  dsimp only
  go_wp2_with fail
  go_at_call 19
  with_reducible refine (KL.out _).mono ?_
  rintro e w2 ⟨rfl, hb2⟩
  have HB2 := hide (HTR.out _ _ HB1.out hb2)
  obtain ⟨x2, y2, HX2, hl2⟩ := HW.out _ HB2.out
  have c2 : w2.cell? ⟨w.heap.size, 0, none⟩ = some (.int .i64 p) := (cell_of_row w2 _ 0 _ _ (0, 0) x2).trans rfl
  have d2 : w2.cell? ⟨w.heap.size, 1, none⟩ = some (.int .i64 s) := (cell_of_row w2 _ 1 _ _ (0, 0) x2).trans rfl
  have e2 : w2.cell? ⟨w.heap.size, 2, none⟩ = some (.int .i64 l) := (cell_of_row w2 _ 2 _ _ (0, 0) x2).trans rfl
  have HY2 := hide y2
  have HX2 := hide HX2
  have HL2 := hide hl2
  clear hb2 hl2
  dsimp only
  obtain ⟨W5, hW5, q2, z2, b2⟩ := alloc_nm w2 (.cells #[.int .i64 p, .int .i64 s, .int .i64 now] 23)
  have q1 : W5.heap[w.heap.size + 1]? = some (.cells #[.int .i64 0, .int .i64 0, .int .i64 0] 23 (0, 0)) := (b2.block _ (by have := HL2.out; omega)).trans y2
  have HB5 : Hid (Below w.heap.size w W5) := hide (HX2.out.trans (b2.mono (by have := HL2.out; omega)))
  have HQ1 := hide q1
  have d5 : W5.cell? ⟨w.heap.size, 1, none⟩ = some (.int .i64 s) := (cell_of_row W5 _ 1 _ _ (0, 0) ((b2.block _ (by have := HL2.out; omega)).trans x2)).trans rfl
  have m1 : W5.cell? ⟨w2.heap.size, 1, none⟩ = some (.int .i64 s) := (cell_of_row W5 _ 1 _ _ (0, 0) q2).trans rfl
  have m2 : W5.frozen? ⟨w2.heap.size, 1, none⟩ = false := frozen_of_row W5 _ 1 _ _ q2
  have HST : Hid (∀ z W6, W5.setCell ⟨w2.heap.size, 1, none⟩ (.int .i64 z) = W6 → W6.heap[w2.heap.size]? = some (.cells #[.int .i64 p, .int .i64 z, .int .i64 now] 23 (0, 0)) ∧ W6.heap[w.heap.size + 1]? = some (.cells #[.int .i64 0, .int .i64 0, .int .i64 0] 23 (0, 0)) ∧ Below w.heap.size w W6) := hide fun z W6 h6 => by
    subst h6
    have q3 := heap_setCell_same W5 w2.heap.size 1 _ _ (.int .i64 z) q2
    rw [set1] at q3
    exact ⟨q3, (heap_setCell_other W5 ⟨w2.heap.size, 1, none⟩ (w.heap.size + 1) (.int .i64 z) (by have := HL2.out; simp only [ne_eq]; omega)).trans q1, below_setV HB5.out (by have := HL2.out; omega) _⟩
  clear b2 z2 x1 y1 x2 y2 c1 d1 e1
  cases r
  · by_cases hs : s = 2
    · subst hs
      cases a
      · cases f
        · obtain rfl : S = (2 : Int) := by rw [HT.out]; rfl
          go_wp2_with (first | (go_at_call 43; (with_reducible refine (K4b.out _).mono ?_); rintro e w9 ⟨rfl, rfl⟩; dsimp only) | (go_at_call 43; (with_reducible refine (K1b.out _).mono ?_); rintro e w9 ⟨rfl, rfl⟩; dsimp only) | (go_at_call 43; (with_reducible refine (K16b.out _).mono ?_); rintro e w9 ⟨rfl, rfl⟩; dsimp only) | fail)
          refine bodyPost_ret (results_cell_tmp (fn := Try.f15) Try.results15 _ _ (w.heap.size + 1) 23 _ (0, 0) _ rfl (setRow_heap _ _ _ _ _ _ HQ1.out) Try.underlying23 rfl info_rflow) rfl ?_
          exact ⟨rfl, below_setRow HB5.out (Nat.le_succ _) _⟩
        · obtain rfl : S = 2 := by rw [HT.out]; rfl
          obtain ⟨W6, hW6⟩ : ∃ W6, W5.setCell ⟨w2.heap.size, 1, none⟩ (.int .i64 2) = W6 := ⟨_, rfl⟩
          obtain ⟨q6, y6, b6⟩ := HST.out _ _ hW6
          have HY6 := hide y6
          have HB6 := hide b6
          clear b6 q1 q2
          go_wp2_with (first | (go_at_call 43; (with_reducible refine (K4b.out _).mono ?_); rintro e w9 ⟨rfl, rfl⟩; dsimp only) | (go_at_call 43; (with_reducible refine (K1b.out _).mono ?_); rintro e w9 ⟨rfl, rfl⟩; dsimp only) | (go_at_call 43; (with_reducible refine (K16b.out _).mono ?_); rintro e w9 ⟨rfl, rfl⟩; dsimp only) | fail)
          refine bodyPost_ret (results_cell_tmp (fn := Try.f15) Try.results15 _ _ (w.heap.size + 1) 23 _ (0, 0) _ rfl (setRow_heap _ _ _ _ _ _ HY6.out) Try.underlying23 rfl info_rflow) rfl ?_
          exact ⟨rfl, below_setRow HB6.out (Nat.le_succ _) _⟩
      · cases f
        · obtain rfl : S = 3 := by rw [HT.out]; rfl
          obtain ⟨W6, hW6⟩ : ∃ W6, W5.setCell ⟨w2.heap.size, 1, none⟩ (.int .i64 3) = W6 := ⟨_, rfl⟩
          obtain ⟨q6, y6, b6⟩ := HST.out _ _ hW6
          have HY6 := hide y6
          have HB6 := hide b6
          clear b6 q1 q2
          go_wp2_with (first | (go_at_call 43; (with_reducible refine (K4b.out _).mono ?_); rintro e w9 ⟨rfl, rfl⟩; dsimp only) | (go_at_call 43; (with_reducible refine (K1b.out _).mono ?_); rintro e w9 ⟨rfl, rfl⟩; dsimp only) | (go_at_call 43; (with_reducible refine (K16b.out _).mono ?_); rintro e w9 ⟨rfl, rfl⟩; dsimp only) | fail)
          refine bodyPost_ret (results_cell_tmp (fn := Try.f15) Try.results15 _ _ (w.heap.size + 1) 23 _ (0, 0) _ rfl (setRow_heap _ _ _ _ _ _ HY6.out) Try.underlying23 rfl info_rflow) rfl ?_
          exact ⟨rfl, below_setRow HB6.out (Nat.le_succ _) _⟩
        · obtain rfl : S = 2 := by rw [HT.out]; rfl
          obtain ⟨W6, hW6⟩ : ∃ W6, W5.setCell ⟨w2.heap.size, 1, none⟩ (.int .i64 2) = W6 := ⟨_, rfl⟩
          obtain ⟨q6, y6, b6⟩ := HST.out _ _ hW6
          have HY6 := hide y6
          have HB6 := hide b6
          clear b6 q1 q2
          go_wp2_with (first | (go_at_call 43; (with_reducible refine (K4b.out _).mono ?_); rintro e w9 ⟨rfl, rfl⟩; dsimp only) | (go_at_call 43; (with_reducible refine (K1b.out _).mono ?_); rintro e w9 ⟨rfl, rfl⟩; dsimp only) | (go_at_call 43; (with_reducible refine (K16b.out _).mono ?_); rintro e w9 ⟨rfl, rfl⟩; dsimp only) | fail)
          refine bodyPost_ret (results_cell_tmp (fn := Try.f15) Try.results15 _ _ (w.heap.size + 1) 23 _ (0, 0) _ rfl (setRow_heap _ _ _ _ _ _ HY6.out) Try.underlying23 rfl info_rflow) rfl ?_
          exact ⟨rfl, below_setRow HB6.out (Nat.le_succ _) _⟩
    · have hs2 : (s == 2) = false := by simpa using hs
      cases f
      · obtain rfl : S = s := by rw [HT.out]; simp [turnB, hs2]
        go_wp2_with (first | (go_at_call 43; (with_reducible refine (K4b.out _).mono ?_); rintro e w9 ⟨rfl, rfl⟩; dsimp only) | (go_at_call 43; (with_reducible refine (K1b.out _).mono ?_); rintro e w9 ⟨rfl, rfl⟩; dsimp only) | (go_at_call 43; (with_reducible refine (K16b.out _).mono ?_); rintro e w9 ⟨rfl, rfl⟩; dsimp only) | fail)
        refine bodyPost_ret (results_cell_tmp (fn := Try.f15) Try.results15 _ _ (w.heap.size + 1) 23 _ (0, 0) _ rfl (setRow_heap _ _ _ _ _ _ HQ1.out) Try.underlying23 rfl info_rflow) rfl ?_
        exact ⟨rfl, below_setRow HB5.out (Nat.le_succ _) _⟩
      · obtain rfl : S = 2 := by rw [HT.out]; simp [turnB]
        obtain ⟨W6, hW6⟩ : ∃ W6, W5.setCell ⟨w2.heap.size, 1, none⟩ (.int .i64 2) = W6 := ⟨_, rfl⟩
        obtain ⟨q6, y6, b6⟩ := HST.out _ _ hW6
        have HY6 := hide y6
        have HB6 := hide b6
        clear b6 q1 q2
        go_wp2_with (first | (go_at_call 43; (with_reducible refine (K4b.out _).mono ?_); rintro e w9 ⟨rfl, rfl⟩; dsimp only) | (go_at_call 43; (with_reducible refine (K1b.out _).mono ?_); rintro e w9 ⟨rfl, rfl⟩; dsimp only) | (go_at_call 43; (with_reducible refine (K16b.out _).mono ?_); rintro e w9 ⟨rfl, rfl⟩; dsimp only) | fail)
        refine bodyPost_ret (results_cell_tmp (fn := Try.f15) Try.results15 _ _ (w.heap.size + 1) 23 _ (0, 0) _ rfl (setRow_heap _ _ _ _ _ _ HY6.out) Try.underlying23 rfl info_rflow) rfl ?_
        exact ⟨rfl, below_setRow HB6.out (Nat.le_succ _) _⟩
  · obtain rfl : S = 3 := by rw [HT.out]; simp [turnB]
    obtain ⟨W6, hW6⟩ : ∃ W6, W5.setCell ⟨w2.heap.size, 1, none⟩ (.int .i64 3) = W6 := ⟨_, rfl⟩
    obtain ⟨q6, y6, b6⟩ := HST.out _ _ hW6
    have HY6 := hide y6
    have HB6 := hide b6
    clear b6 q1 q2
    go_wp2_with (first | (go_at_call 43; (with_reducible refine (K4b.out _).mono ?_); rintro e w9 ⟨rfl, rfl⟩; dsimp only) | (go_at_call 43; (with_reducible refine (K1b.out _).mono ?_); rintro e w9 ⟨rfl, rfl⟩; dsimp only) | (go_at_call 43; (with_reducible refine (K16b.out _).mono ?_); rintro e w9 ⟨rfl, rfl⟩; dsimp only) | fail)
    refine bodyPost_ret (results_cell_tmp (fn := Try.f15) Try.results15 _ _ (w.heap.size + 1) 23 _ (0, 0) _ rfl (setRow_heap _ _ _ _ _ _ HY6.out) Try.underlying23 rfl info_rflow) rfl ?_
    exact ⟨rfl, below_setRow HB6.out (Nat.le_succ _) _⟩
end Go.Proofs.Ytbkipfmnbfjkcaa
