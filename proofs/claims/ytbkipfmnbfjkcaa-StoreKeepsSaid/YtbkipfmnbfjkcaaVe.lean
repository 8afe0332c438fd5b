/-
  Flows: their first packet, another packet; of the program's and of the document's.
-/
import Derived.Test.YtbkipfmnbfjkcaaVd
namespace Go.Proofs.Ytbkipfmnbfjkcaa
open Go.RowKit
set_option maxRecDepth 100000
set_option linter.unusedVariables false
set_option linter.unusedSimpArgs false
theorem built_flow0 : Try.prog.built 24 [] = some #[.int .i64 0, .int .i64 0, .int .i64 0] := by kernel_rfl
theorem built_rflow0 : Try.prog.built 23 [] = some #[.int .i64 0, .int .i64 0, .int .i64 0] := by kernel_rfl
theorem built_flow2 (p s : Int) : Try.prog.built 24 [(0, .int .i64 p), (1, .int .i64 s)] = some #[.int .i64 p, .int .i64 s, .int .i64 0] := by kernel_rfl
theorem built_flow3 (p s l : Int) : Try.prog.built 24 [(0, .int .i64 p), (1, .int .i64 s), (2, .int .i64 l)] = some #[.int .i64 p, .int .i64 s, .int .i64 l] := by kernel_rfl
theorem built_rflow3 (p s l : Int) : Try.prog.built 23 [(0, .int .i64 p), (1, .int .i64 s), (2, .int .i64 l)] = some #[.int .i64 p, .int .i64 s, .int .i64 l] := by kernel_rfl
attribute [local go_sem ↓] exec_span exec_put exec_build heap_alloc_new heap_old
attribute [local go_sem] spanQ_ptr spanC_some heap_of_drew heap_of_drewN putAt_ptr putOk_ptr oldOk_some rs_Flow rs_RFlow built_flow0 built_rflow0 built_flow2 built_flow3 built_rflow3

def beginF (p fl now : Int) : Flw × Int := if p ≠ 6 ∧ p ≠ 17 then (fl0, 14) else if pktB p fl now = false then (fl0, 1) else if hasB fl 4 = true then (fl0, 5) else (⟨p, turnF 1 fl, now⟩, 0)
def stepF (f : Flw) (fl now : Int) : Flw × Int := if rightB f = false ∨ pktB f.p fl now = false then (fl0, 1) else if now < f.l then (fl0, 21) else if liveB f now = false then (fl0, 5) else (⟨f.p, turnF f.s fl, now⟩, 0)
theorem pktB_fl {p fl now : Int} (h : pktB p fl now = true) : 0 ≤ fl ∧ fl ≤ 255 := by
  obtain ⟨_, h1, h2, _⟩ := pktB_iff.1 h
  exact ⟨h1, h2⟩
def flE (r : Flw × Int) : Value := .tuple #[flV r.1, .int .i64 r.2]
theorem ext3 (p s l : Int) : (#[Value.int .i64 p, .int .i64 s, .int .i64 l] : Array Value).extract 0 3 = #[Value.int .i64 p, .int .i64 s, .int .i64 l] := rfl
set_option maxHeartbeats 4000000 in
theorem beginF_any (w : World) (p fl now : Int) : Calls Try.prog 12 #[.int .i64 p, .int .i64 fl, .int .i64 now] w (RetV w (flE (beginF p fl now))) := by
  obtain ⟨W, hW, r1, z1, b1⟩ := alloc_nm w (.cells #[.int .i64 0, .int .i64 0, .int .i64 0] 24)
  have HR := hide r1
  have HB := hide b1
  have KP := hide (fun W => rightPacketF_any W p fl now)
  have KB := hide (fun (h : pktB p fl now = true) (W : World) => behindF_any W ⟨p, 1, 0⟩ fl now (pktB_fl h).1 (pktB_fl h).2)
  have E4 := hide (fun (h : pktB p fl now = true) => and4 (pktB_fl h).1 (pktB_fl h).2)
  have C3 := cells3
  have HZ := hide z1
  clear b1 z1
  obtain ⟨b, hb⟩ : ∃ b, b = pktB p fl now := ⟨_, rfl⟩
  obtain ⟨h, hh⟩ : ∃ h, h = hasB fl 4 := ⟨_, rfl⟩
  obtain ⟨S, hS⟩ : ∃ S, S = turnF 1 fl := ⟨_, rfl⟩
  unfold beginF
  dsimp only at KB
  unfold flV flA at KB
  rw [← hb] at KP KB E4
  rw [← hh] at E4
  rw [← hS] at KB
  rw [← hb, ← hh, ← hS]
  clear hb hh hS
  by_cases hp : p ≠ 6 ∧ p ≠ 17
  · rw [if_pos hp]
    have e6 : (p != 6) = true := by simpa using hp.1
    have e17 : (p != 17) = true := by simpa using hp.2
    clear hp KP KB E4
    go_enter Try.func12, Try.ntmps12
    go_wp2
    refine bodyPost_ret (results_cell_tmp (fn := Try.f12) Try.results12 _ _ w.heap.size 24 _ (0, 0) _ rfl (setRow_heap _ _ _ _ _ _ HR.out) Try.underlying24 rfl info_flow) rfl ?_
    exact ⟨rfl, below_setRow HB.out (Nat.le_refl _) _⟩
  rw [if_neg hp]
  have hp' : p = 6 ∨ p = 17 := by omega
  clear hp
  cases b
  · rw [if_pos rfl]
    clear KB E4
    rcases hp' with rfl | rfl
    all_goals
      go_enter Try.func12, Try.ntmps12
      go_wp2_with (first | (go_at_call 40; (with_reducible refine (KP.out _).mono ?_); rintro e w2 ⟨rfl, rfl⟩; dsimp only) | fail)
      refine bodyPost_ret (results_cell_tmp (fn := Try.f12) Try.results12 _ _ w.heap.size 24 _ (0, 0) _ rfl (setRow_heap _ _ _ _ _ _ HR.out) Try.underlying24 rfl info_flow) rfl ?_
      exact ⟨rfl, below_setRow HB.out (Nat.le_refl _) _⟩
  have e4 := E4.out rfl
  have KB := hide (KB.out rfl)
  rw [if_neg (by simp)]
  cases h
  · rw [if_neg (by simp)]
    rcases hp' with rfl | rfl
    all_goals
      go_enter Try.func12, Try.ntmps12
      go_wp2_with (first | (go_at_call 40; (with_reducible refine (KP.out _).mono ?_); rintro e w2 ⟨rfl, rfl⟩; dsimp only) | (go_at_call 41; (with_reducible refine (KB.out _).mono ?_); rintro e w2 ⟨rfl, hb2⟩; have r2 := (hb2.block _ (by have := HZ.out; omega)).trans HR.out; have HR2 := hide r2; have HB2 := hide (HB.out.trans (hb2.mono (by have := HZ.out; omega))); clear hb2; dsimp only [flV, flA]) | fail)
      refine bodyPost_ret (results_cell_tmp (fn := Try.f12) Try.results12 _ _ w.heap.size 24 _ (0, 0) _ rfl (setRow_heap _ _ _ _ _ _ HR2.out) Try.underlying24 rfl info_flow) rfl ?_
      exact ⟨rfl, below_setRow HB2.out (Nat.le_refl _) _⟩
  · rw [if_pos rfl]
    rcases hp' with rfl | rfl
    all_goals
      go_enter Try.func12, Try.ntmps12
      go_wp2_with (first | (go_at_call 40; (with_reducible refine (KP.out _).mono ?_); rintro e w2 ⟨rfl, rfl⟩; dsimp only) | fail)
      refine bodyPost_ret (results_cell_tmp (fn := Try.f12) Try.results12 _ _ w.heap.size 24 _ (0, 0) _ rfl (setRow_heap _ _ _ _ _ _ HR.out) Try.underlying24 rfl info_flow) rfl ?_
      exact ⟨rfl, below_setRow HB.out (Nat.le_refl _) _⟩
set_option maxHeartbeats 4000000 in
theorem stepF_any (w : World) (f : Flw) (fl now : Int) : Calls Try.prog 14 #[flV f, .int .i64 fl, .int .i64 now] w (RetV w (flE (stepF f fl now))) := by
  obtain ⟨p, s, l⟩ := f
  obtain ⟨W, hW, r1, r2, hz, hb⟩ := two_newV w #[.int .i64 p, .int .i64 s, .int .i64 l] #[.int .i64 0, .int .i64 0, .int .i64 0] 24 24
  have KR := hide (fun W => rightFlow_any W ⟨p, s, l⟩)
  have KL := hide (fun W => liveF_any W ⟨p, s, l⟩ now)
  have KP := hide (fun W => rightPacketF_any W p fl now)
  have KB := hide (fun (h : pktB p fl now = true) (W : World) => behindF_any W ⟨p, s, l⟩ fl now (pktB_fl h).1 (pktB_fl h).2)
  have HW : Hid (∀ w2, Below W.heap.size W w2 → w2.heap[w.heap.size]? = some (.cells #[.int .i64 p, .int .i64 s, .int .i64 l] 24 (0, 0)) ∧ w2.heap[w.heap.size + 1]? = some (.cells #[.int .i64 0, .int .i64 0, .int .i64 0] 24 (0, 0)) ∧ Below w.heap.size w w2) := hide fun w2 hb2 => ⟨(hb2.block _ (by omega)).trans r1, (hb2.block _ (by omega)).trans r2, hb.trans (hb2.mono (by omega))⟩
  have HT : Hid (∀ w1 w2, Below W.heap.size W w1 → Below w1.heap.size w1 w2 → Below W.heap.size W w2) := hide fun w1 w2 h1 h2 => h1.trans (h2.mono h1.size)
  have C3 := cells3
  have X3 := ext3
  clear hb hz
  obtain ⟨rb, hrb⟩ : ∃ rb, rb = rightB ⟨p, s, l⟩ := ⟨_, rfl⟩
  obtain ⟨lb, hlb⟩ : ∃ lb, lb = liveB ⟨p, s, l⟩ now := ⟨_, rfl⟩
  obtain ⟨pb, hpb⟩ : ∃ pb, pb = pktB p fl now := ⟨_, rfl⟩
  obtain ⟨S, hS⟩ : ∃ S, S = turnF s fl := ⟨_, rfl⟩
  unfold stepF
  dsimp only at KB ⊢
  rw [← hrb] at KR
  rw [← hlb] at KL
  rw [← hpb] at KP KB
  rw [← hS] at KB
  rw [← hrb, ← hlb, ← hpb, ← hS]
  clear hrb hlb hpb hS
  unfold flV flA at *
  cases rb
  · rw [if_pos (.inl rfl)]
    go_enter Try.func14, Try.ntmps14
    have HB0 := hide (Below.refl W.heap.size W)
    go_wp2_with fail
    go_at_call 16
    with_reducible refine (KR.out _).mono ?_
    rintro e w1 ⟨rfl, hb1⟩
    have HB1 := hide (HT.out _ _ HB0.out hb1)
    obtain ⟨x1, y1, HX1⟩ := HW.out _ HB1.out
    have c1 : w1.cell? ⟨w.heap.size, 0, none⟩ = some (.int .i64 p) := (cell_of_row w1 _ 0 _ _ (0, 0) x1).trans rfl
    have d1 : w1.cell? ⟨w.heap.size, 1, none⟩ = some (.int .i64 s) := (cell_of_row w1 _ 1 _ _ (0, 0) x1).trans rfl
    have e1 : w1.cell? ⟨w.heap.size, 2, none⟩ = some (.int .i64 l) := (cell_of_row w1 _ 2 _ _ (0, 0) x1).trans rfl
    have HY1 := hide y1
    have HX1 := hide HX1
    clear hb1
    dsimp only
    go_wp2_with fail
    refine bodyPost_ret (results_cell_tmp (fn := Try.f14) Try.results14 _ _ (w.heap.size + 1) 24 _ (0, 0) _ rfl (setRow_heap _ _ _ _ _ _ HY1.out) Try.underlying24 rfl info_flow) rfl ?_
    exact ⟨rfl, below_setRow HX1.out (Nat.le_succ _) _⟩
  cases pb
  · rw [if_pos (.inr rfl)]
    go_enter Try.func14, Try.ntmps14
    have HB0 := hide (Below.refl W.heap.size W)
    go_wp2_with fail
    go_at_call 16
    with_reducible refine (KR.out _).mono ?_
    rintro e w1 ⟨rfl, hb1⟩
    have HB1 := hide (HT.out _ _ HB0.out hb1)
    obtain ⟨x1, y1, HX1⟩ := HW.out _ HB1.out
    have c1 : w1.cell? ⟨w.heap.size, 0, none⟩ = some (.int .i64 p) := (cell_of_row w1 _ 0 _ _ (0, 0) x1).trans rfl
    have d1 : w1.cell? ⟨w.heap.size, 1, none⟩ = some (.int .i64 s) := (cell_of_row w1 _ 1 _ _ (0, 0) x1).trans rfl
    have e1 : w1.cell? ⟨w.heap.size, 2, none⟩ = some (.int .i64 l) := (cell_of_row w1 _ 2 _ _ (0, 0) x1).trans rfl
    have HY1 := hide y1
    have HX1 := hide HX1
    clear hb1
    dsimp only
    go_wp2_with fail
    go_at_call 40
    with_reducible refine (KP.out _).mono ?_
    rintro e w9 ⟨rfl, rfl⟩
    dsimp only
    go_wp2_with fail
    refine bodyPost_ret (results_cell_tmp (fn := Try.f14) Try.results14 _ _ (w.heap.size + 1) 24 _ (0, 0) _ rfl (setRow_heap _ _ _ _ _ _ HY1.out) Try.underlying24 rfl info_flow) rfl ?_
    exact ⟨rfl, below_setRow HX1.out (Nat.le_succ _) _⟩
  rw [if_neg (by simp)]
  have KB2 := hide (KB.out rfl)
  by_cases hl : now < l
  · rw [if_pos hl]
    go_enter Try.func14, Try.ntmps14
    have HB0 := hide (Below.refl W.heap.size W)
    go_wp2_with fail
    go_at_call 16
    with_reducible refine (KR.out _).mono ?_
    rintro e w1 ⟨rfl, hb1⟩
    have HB1 := hide (HT.out _ _ HB0.out hb1)
    obtain ⟨x1, y1, HX1⟩ := HW.out _ HB1.out
    have c1 : w1.cell? ⟨w.heap.size, 0, none⟩ = some (.int .i64 p) := (cell_of_row w1 _ 0 _ _ (0, 0) x1).trans rfl
    have d1 : w1.cell? ⟨w.heap.size, 1, none⟩ = some (.int .i64 s) := (cell_of_row w1 _ 1 _ _ (0, 0) x1).trans rfl
    have e1 : w1.cell? ⟨w.heap.size, 2, none⟩ = some (.int .i64 l) := (cell_of_row w1 _ 2 _ _ (0, 0) x1).trans rfl
    have HY1 := hide y1
    have HX1 := hide HX1
    clear hb1
    dsimp only
    go_wp2_with fail
    go_at_call 40
    with_reducible refine (KP.out _).mono ?_
    rintro e w9 ⟨rfl, rfl⟩
    dsimp only
    go_wp2_with fail
    refine bodyPost_ret (results_cell_tmp (fn := Try.f14) Try.results14 _ _ (w.heap.size + 1) 24 _ (0, 0) _ rfl (setRow_heap _ _ _ _ _ _ HY1.out) Try.underlying24 rfl info_flow) rfl ?_
    exact ⟨rfl, below_setRow HX1.out (Nat.le_succ _) _⟩
  rw [if_neg hl]
  cases lb
  · rw [if_pos rfl]
    go_enter Try.func14, Try.ntmps14
    have HB0 := hide (Below.refl W.heap.size W)
    go_wp2_with fail
    go_at_call 16
    with_reducible refine (KR.out _).mono ?_
    rintro e w1 ⟨rfl, hb1⟩
    have HB1 := hide (HT.out _ _ HB0.out hb1)
    obtain ⟨x1, y1, HX1⟩ := HW.out _ HB1.out
    have c1 : w1.cell? ⟨w.heap.size, 0, none⟩ = some (.int .i64 p) := (cell_of_row w1 _ 0 _ _ (0, 0) x1).trans rfl
    have d1 : w1.cell? ⟨w.heap.size, 1, none⟩ = some (.int .i64 s) := (cell_of_row w1 _ 1 _ _ (0, 0) x1).trans rfl
    have e1 : w1.cell? ⟨w.heap.size, 2, none⟩ = some (.int .i64 l) := (cell_of_row w1 _ 2 _ _ (0, 0) x1).trans rfl
    have HY1 := hide y1
    have HX1 := hide HX1
    clear hb1
    dsimp only
    go_wp2_with fail
    go_at_call 40
    with_reducible refine (KP.out _).mono ?_
    rintro e w9 ⟨rfl, rfl⟩
    dsimp only
    go_wp2_with fail
    go_at_call 18
    with_reducible refine (KL.out _).mono ?_
    rintro e w2 ⟨rfl, hb2⟩
    have HB2 := hide (HT.out _ _ HB1.out hb2)
    obtain ⟨x2, y2, HX2⟩ := HW.out _ HB2.out
    have c2 : w2.cell? ⟨w.heap.size, 0, none⟩ = some (.int .i64 p) := (cell_of_row w2 _ 0 _ _ (0, 0) x2).trans rfl
    have d2 : w2.cell? ⟨w.heap.size, 1, none⟩ = some (.int .i64 s) := (cell_of_row w2 _ 1 _ _ (0, 0) x2).trans rfl
    have e2 : w2.cell? ⟨w.heap.size, 2, none⟩ = some (.int .i64 l) := (cell_of_row w2 _ 2 _ _ (0, 0) x2).trans rfl
    have HY2 := hide y2
    have HX2 := hide HX2
    clear hb2
    dsimp only
    go_wp2_with fail
    refine bodyPost_ret (results_cell_tmp (fn := Try.f14) Try.results14 _ _ (w.heap.size + 1) 24 _ (0, 0) _ rfl (setRow_heap _ _ _ _ _ _ HY2.out) Try.underlying24 rfl info_flow) rfl ?_
    exact ⟨rfl, below_setRow HX2.out (Nat.le_succ _) _⟩
  · rw [if_neg (by simp)]
    go_enter Try.func14, Try.ntmps14
    have HB0 := hide (Below.refl W.heap.size W)
    go_wp2_with fail
    go_at_call 16
    with_reducible refine (KR.out _).mono ?_
    rintro e w1 ⟨rfl, hb1⟩
    have HB1 := hide (HT.out _ _ HB0.out hb1)
    obtain ⟨x1, y1, HX1⟩ := HW.out _ HB1.out
    have c1 : w1.cell? ⟨w.heap.size, 0, none⟩ = some (.int .i64 p) := (cell_of_row w1 _ 0 _ _ (0, 0) x1).trans rfl
    have d1 : w1.cell? ⟨w.heap.size, 1, none⟩ = some (.int .i64 s) := (cell_of_row w1 _ 1 _ _ (0, 0) x1).trans rfl
    have e1 : w1.cell? ⟨w.heap.size, 2, none⟩ = some (.int .i64 l) := (cell_of_row w1 _ 2 _ _ (0, 0) x1).trans rfl
    have HY1 := hide y1
    have HX1 := hide HX1
    clear hb1
    dsimp only
    go_wp2_with fail
    go_at_call 40
    with_reducible refine (KP.out _).mono ?_
    rintro e w9 ⟨rfl, rfl⟩
    dsimp only
    go_wp2_with fail
    go_at_call 18
    with_reducible refine (KL.out _).mono ?_
    rintro e w2 ⟨rfl, hb2⟩
    have HB2 := hide (HT.out _ _ HB1.out hb2)
    obtain ⟨x2, y2, HX2⟩ := HW.out _ HB2.out
    have c2 : w2.cell? ⟨w.heap.size, 0, none⟩ = some (.int .i64 p) := (cell_of_row w2 _ 0 _ _ (0, 0) x2).trans rfl
    have d2 : w2.cell? ⟨w.heap.size, 1, none⟩ = some (.int .i64 s) := (cell_of_row w2 _ 1 _ _ (0, 0) x2).trans rfl
    have e2 : w2.cell? ⟨w.heap.size, 2, none⟩ = some (.int .i64 l) := (cell_of_row w2 _ 2 _ _ (0, 0) x2).trans rfl
    have HY2 := hide y2
    have HX2 := hide HX2
    clear hb2
    dsimp only
    go_wp2_with fail
    go_at_call 41
    with_reducible refine (KB2.out _).mono ?_
    rintro e w3 ⟨rfl, hb3⟩
    have HB3 := hide (HT.out _ _ HB2.out hb3)
    obtain ⟨x3, y3, HX3⟩ := HW.out _ HB3.out
    have c3 : w3.cell? ⟨w.heap.size, 0, none⟩ = some (.int .i64 p) := (cell_of_row w3 _ 0 _ _ (0, 0) x3).trans rfl
    have d3 : w3.cell? ⟨w.heap.size, 1, none⟩ = some (.int .i64 s) := (cell_of_row w3 _ 1 _ _ (0, 0) x3).trans rfl
    have e3 : w3.cell? ⟨w.heap.size, 2, none⟩ = some (.int .i64 l) := (cell_of_row w3 _ 2 _ _ (0, 0) x3).trans rfl
    have HY3 := hide y3
    have HX3 := hide HX3
    clear hb3
    dsimp only
    go_wp2_with fail
    refine bodyPost_ret (results_cell_tmp (fn := Try.f14) Try.results14 _ _ (w.heap.size + 1) 24 _ (0, 0) _ rfl (setRow_heap _ _ _ _ _ _ HY3.out) Try.underlying24 rfl info_flow) rfl ?_
    exact ⟨rfl, below_setRow HX3.out (Nat.le_succ _) _⟩
end Go.Proofs.Ytbkipfmnbfjkcaa
