/-
  A pin put into a store.
-/
import Derived.Test.YtbkipfmnbfjkcaaVr
import Derived.StillTailTactics
namespace Go.Proofs.Ytbkipfmnbfjkcaa
open Go.RowKit
set_option maxRecDepth 100000
set_option linter.unusedVariables false
set_option linter.unusedSimpArgs false
attribute [local go_sem ↓] exec_span exec_put exec_build heap_alloc_new heap_old
attribute [local go_sem] spanQ_ptr spanC_some heap_of_drew heap_of_drewN putAt_ptr putOk_ptr oldOk_some World.setRow_alloc_new rs_Flow rs_Pin rs_Com rs_Sto rs_Que rs_tup built_pin0 built_com built_pin pinZ_lit tkZ_lit

/-- what a store holds behind a pin that was put. -/
def untP (q : PinR) (z : Int) (u : List ((Int × Int) × Int)) : List ((Int × Int) × Int) := putU (q.b, q.g) (max ((lookU (q.b, q.g) u).getD 0) z) u
theorem StoS.putPins {w : World} {p bp bu : Nat} {most : Int} {l : List PinR} {u : List ((Int × Int) × Int)} (h : StoS w p bp bu most l u) (q : PinR) :
    ∃ o, (Instr.mapUpdate 92 (.map (some bp)) (.agg (tupA q.t)) (.agg (pinA q))).run Try.prog w = .ok () (w.putObj bp o) ∧ StoS (w.putObj bp o) p bp bu most (putP q l) u := by
  obtain ⟨o, h1, h2⟩ := h.pins.store (P := Try.prog) keyT Try.underlying92 q.t (.agg (pinA q))
  rw [put_pin] at h2
  obtain ⟨n1, n2⟩ := h.ne_p
  exact ⟨o, h1, (World.putObj_heap_other n1).trans h.blk, h2, h.unt.of_heap (World.putObj_heap_other (fun e => h.ne e.symm)), h.ne, putP_keys h.nd⟩
theorem StoS.putUnt {w : World} {p bp bu : Nat} {most : Int} {l : List PinR} {u : List ((Int × Int) × Int)} (h : StoS w p bp bu most l u) (a b z : Int) :
    ∃ o, (Instr.mapUpdate 93 (.map (some bu)) (.agg #[.int .i64 a, .int .i64 b]) (.int .i64 z)).run Try.prog w = .ok () (w.putObj bu o) ∧ StoS (w.putObj bu o) p bp bu most l (putU (a, b) z u) := by
  obtain ⟨o, h1, h2⟩ := h.unt.store (P := Try.prog) keyC Try.underlying93 (a, b) (.int .i64 z)
  rw [put_unt] at h2
  obtain ⟨n1, n2⟩ := h.ne_p
  exact ⟨o, h1, (World.putObj_heap_other n2).trans h.blk, h.pins.of_heap (World.putObj_heap_other h.ne), h2, h.ne, h.nd⟩
theorem StoS.drew {w : World} {p bp bu : Nat} {most : Int} {l : List PinR} {u : List ((Int × Int) × Int)} (h : StoS w p bp bu most l u) : StoS w.drew p bp bu most l u := h.below ⟨rfl, rfl, rfl, Nat.le_refl _, fun _ _ => rfl⟩
theorem Tou.drew {w w' : World} {bp bu : Nat} (h : Tou w w' bp bu) : Tou w w'.drew bp bu := ⟨h.os, h.tape, h.output, h.size, h.block⟩
theorem max_le (a b : Int) (h : a ≤ b) : max a b = b := by omega
theorem max_gt (a b : Int) (h : b < a) : max a b = a := by omega
set_option maxHeartbeats 8000000 in
theorem stoPut_any {w : World} {p bp bu : Nat} {most : Int} {l : List PinR} {u : List ((Int × Int) × Int)} (h : StoS w p bp bu most l u) (q : PinR) (z : Int) :
    Calls Try.prog 53 #[.pointer (some ⟨p, 0, none⟩), .agg (pinA q), .int .i64 z] w fun e w' => e = .returned (.tuple #[]) ∧ StoS w' p bp bu most (putP q l) (untP q z u) ∧ Tou w w' bp bu := by
  obtain ⟨W1, hW1, r_q, z1, b1⟩ := alloc_nm w (.cells (pinA q) 66)
  obtain ⟨W2, hW2, r_c, z2, b2⟩ := alloc_nm W1 (.cells #[.int .i64 q.b, .int .i64 q.g] 101)
  have r_q2 := keepB b2 r_q
  have B2 : Below w.heap.size w W2 := b1.trans (b2.mono b1.size)
  have S2 := (h.below B2).drew
  obtain ⟨o3, e3, S3⟩ := S2.putPins q
  obtain ⟨W3, hW3⟩ : ∃ W3, W2.drew.putObj bp o3 = W3 := ⟨_, rfl⟩
  rw [hW3] at e3 S3
  have T3 : Tou W2 W3 bp bu := by rw [← hW3]; exact Tou.trans (Tou.of_below (below_drewP (Below.refl _ _))) (Tou.putP o3)
  have S3d := S3.drew
  have hu := unt_look S3d (q.b, q.g) false
  obtain ⟨o4, e4, S4⟩ := S3d.putUnt q.b q.g (max ((lookU (q.b, q.g) u).getD 0) z)
  have hl := h.lt
  have n1 : w.heap.size ≠ bp := by omega
  have n2 : w.heap.size ≠ bu := by omega
  have n3 : W1.heap.size ≠ bp := by have := b1.size; omega
  have n4 : W1.heap.size ≠ bu := by have := b1.size; omega
  have HF : Hid (StoS (W3.drew.putObj bu o4) p bp bu most (putP q l) (untP q z u) ∧ Tou w (W3.drew.putObj bu o4) bp bu) := hide ⟨S4, ((Tou.of_below B2).trans T3).drew.trans (Tou.putU o4)⟩
  have p2 : W2.drew.cell? ⟨p, 1, none⟩ = some (.map (some bp)) := (cell_of_row _ p 1 _ _ (0, 0) S2.blk).trans rfl
  have p3 : W3.drew.cell? ⟨p, 2, none⟩ = some (.map (some bu)) := (cell_of_row _ p 2 _ _ (0, 0) S3d.blk).trans rfl
  have r_q2d : W2.drew.heap[w.heap.size]? = _ := r_q2
  have r_c3 : W3.heap[W1.heap.size]? = some (.cells #[.int .i64 q.b, .int .i64 q.g] 101 (0, 0)) := (T3.block _ (by omega) n3 n4).trans r_c
  have x3 : (pinA q).extract 0 37 = tupA q.t := pin_tup q
  have x4 := pin_x q
  have x5 := pin_size q
  have x6 := pin_one q
  obtain ⟨y1, y2⟩ := pin_at q
  have k1 : W1.cell? ⟨w.heap.size, 37, none⟩ = some (.int .i64 q.b) := (cell_of_row W1 _ 37 _ _ (0, 0) r_q).trans y1
  have k2 : W1.cell? ⟨w.heap.size, 38, none⟩ = some (.int .i64 q.g) := (cell_of_row W1 _ 38 _ _ (0, 0) r_q).trans y2
  have X2 : (#[Value.int .i64 q.b, .int .i64 q.g] : Array Value).extract 0 2 = #[Value.int .i64 q.b, .int .i64 q.g] := rfl
  have c2 : allOne #[Value.int .i64 q.b, .int .i64 q.g] = true := by simp [allOne, Value.oneCell']
  obtain ⟨W4, hW4⟩ : ∃ W4, W3.drew.putObj bu o4 = W4 := ⟨_, rfl⟩
  rw [hW4] at e4 HF
  obtain ⟨PX, hPX⟩ : ∃ PX, PX = pinA q := ⟨_, rfl⟩
  obtain ⟨TX, hTX⟩ : ∃ TX, TX = tupA q.t := ⟨_, rfl⟩
  rw [← hPX] at hW1 r_q r_q2 r_q2d e3 x3 x4 x5 x6
  rw [← hTX] at e3 x3
  rw [← hPX]
  obtain ⟨a, ha⟩ : ∃ a, a = (lookU (q.b, q.g) u).getD 0 := ⟨_, rfl⟩
  rw [← ha] at hu e4
  obtain ⟨qb, hqb⟩ : ∃ a, a = q.b := ⟨_, rfl⟩
  obtain ⟨qg, hqg⟩ : ∃ a, a = q.g := ⟨_, rfl⟩
  rw [← hqb, ← hqg] at hW2 r_c hu e4 r_c3 c2 X2
  rw [← hqb] at k1
  rw [← hqg] at k2
  simp only [Bool.false_eq_true, if_false] at hu
  clear hPX hTX ha hqb hqg S2 S3 S3d S4 T3 b1 b2 B2 z1 z2 hl n1 n2 n3 n4 y1 y2 h hW3 hW4 r_q r_c
  rcases Int.lt_trichotomy a z with hm | hm | hm
  · rw [max_le _ _ (by omega)] at e4
    have hm2 : ¬ z ≤ a := by omega
    have hm3 : a ≤ z := by omega
    go_enter Try.func53, Try.ntmps53
    go_upto_region 2 with (fail)
    go_still_tail 7, (by kernel_rfl)
    go_upto_region 3 with (fail)
    go_still_tail 13, (by kernel_rfl)
    go_wp2
    go_end0
    exact ⟨rfl, HF.out⟩
  · subst hm
    rw [max_le _ _ (by omega)] at e4
    go_enter Try.func53, Try.ntmps53
    go_upto_region 2 with (fail)
    go_still_tail 7, (by kernel_rfl)
    go_upto_region 3 with (fail)
    go_still_tail 13, (by kernel_rfl)
    go_wp2
    go_end0
    exact ⟨rfl, HF.out⟩
  · rw [max_gt _ _ hm] at e4
    have hm2 : ¬ a ≤ z := by omega
    have hm3 : z ≤ a := by omega
    go_enter Try.func53, Try.ntmps53
    go_upto_region 2 with (fail)
    go_still_tail 7, (by kernel_rfl)
    go_upto_region 3 with (fail)
    go_still_tail 13, (by kernel_rfl)
    go_wp2
    go_end0
    exact ⟨rfl, HF.out⟩
end Go.Proofs.Ytbkipfmnbfjkcaa
