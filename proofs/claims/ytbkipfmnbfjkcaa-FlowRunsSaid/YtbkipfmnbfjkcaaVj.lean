/-
  Flows: the next packet of some; packets as a slice reads; a run of packets.
-/
import Derived.Test.YtbkipfmnbfjkcaaVi
namespace Go.Proofs.Ytbkipfmnbfjkcaa
open Go.RowKit
set_option maxRecDepth 100000
set_option linter.unusedVariables false
set_option linter.unusedSimpArgs false
theorem rs_Pkt : rowSize Try.prog 46 = some 2 := by kernel_rfl
theorem rs_RPkt : rowSize Try.prog 45 = some 2 := by kernel_rfl
attribute [local go_sem ↓] exec_span exec_put exec_build heap_alloc_new heap_old
attribute [local go_sem] spanQ_ptr spanC_some heap_of_drew heap_of_drewN putAt_ptr putOk_ptr oldOk_some World.setRow_alloc_new rs_Flow rs_RFlow built_flow0 built_rflow0 built_flow2 built_flow3 built_rflow3 rs_Pkt rs_RPkt

/-- the next packet: how many flows begin by it, the flow, the error. -/
def nextF (p : Int) (last : Flw) (k : Int × Int) : Int × (Flw × Int) := if liveB last k.2 = true then (0, stepF last k.1 k.2) else (1, beginF p k.1 k.2)
def pkA (k : Int × Int) : Array Value := #[.int .i64 k.1, .int .i64 k.2]
def nxE (r : Int × (Flw × Int)) : Value := .tuple #[.int .i64 r.1, flV r.2.1, .int .i64 r.2.2]
theorem results_tmp_cell_tmp {P : Program} {fn : Func} {o p q : Tmp} {ty : TypeId} (h : fn.results = #[.tmp o, .cell p ty, .tmp q]) (tmps : Array Value) (w : World) (g : Nat) (t : TypeId) (cs : Array Value) (fr : Nat × Nat) (d : TypeDesc)
    (hp : tmps.getD p undef = .pointer (some ⟨g, 0, none⟩)) (hg : w.heap[g]? = some (.cells cs t fr))
    (hu : P.underlying ty = some d) (hd : (match d with | .struct _ | .array _ _ => true | _ => false) = true) (hi : (P.info? ty).map (·.size) = some cs.size) :
    (results fn tmps).run P w = .ok (.tuple #[tmps.getD o undef, .agg cs, tmps.getD q undef]) w := by
  have hp' : tmps[p]?.getD undef = .pointer (some ⟨g, 0, none⟩) := by simpa using hp
  simp [results, h, hp', asAddr, run_loadVar_row w g t ty cs fr d hg hu hd hi]
theorem cells2 (a b : Int) : allOne #[Value.int .i64 a, Value.int .i64 b] = true := by simp [allOne, Value.oneCell']
theorem ext2 (a b : Int) : (#[Value.int .i64 a, .int .i64 b] : Array Value).extract 0 2 = #[Value.int .i64 a, .int .i64 b] := rfl
theorem below_drewV {B : Nat} {w w' : World} (h : Below B w w') : Below B w w'.drew := ⟨h.os, h.tape, h.output, h.size, h.block⟩
set_option maxHeartbeats 4000000 in
theorem nextF_any (w : World) (p : Int) (f : Flw) (k : Int × Int) : Calls Try.prog 48 #[.int .i64 p, flV f, .agg (pkA k)] w (RetV w (nxE (nextF p f k))) := by
  have KL := hide (fun W => liveF_any W f k.2)
  have KS := hide (fun W => stepF_any W f k.1 k.2)
  have KB := hide (fun W => beginF_any W p k.1 k.2)
  have HN : Hid (nextF p f k = if liveB f k.2 = true then (0, stepF f k.1 k.2) else (1, beginF p k.1 k.2)) := hide rfl
  obtain ⟨N, hN⟩ : ∃ N, N = nextF p f k := ⟨_, rfl⟩
  obtain ⟨lb, hlb⟩ : ∃ x, x = liveB f k.2 := ⟨_, rfl⟩
  obtain ⟨⟨FS, eS⟩, hS⟩ : ∃ x, x = stepF f k.1 k.2 := ⟨_, rfl⟩
  obtain ⟨⟨FB, eB⟩, hB⟩ : ∃ x, x = beginF p k.1 k.2 := ⟨_, rfl⟩
  rw [← hS, ← hB] at HN
  rw [← hS] at KS
  rw [← hB] at KB
  rw [← hN] at HN ⊢
  rw [← hlb] at KL HN
  clear hN hlb hS hB
  have a1 := flA_one f
  have x1 := flA_x f
  have z1 := flA_size f
  have a2 := flA_one FS
  have z2 := flA_size FS
  have x2 := flA_x FS
  have a3 := flA_one FB
  have z3 := flA_size FB
  have x3 := flA_x FB
  have HI : Hid ((Try.prog.info? 24).map (·.size) = some (flA FS).size) := hide info_flow
  have HI2 : Hid ((Try.prog.info? 24).map (·.size) = some (flA FB).size) := hide info_flow
  have C3 := cells3
  obtain ⟨kf, kn⟩ := k
  have C2 := cells2
  unfold flE nxE flV pkA at *
  dsimp only at *
  generalize flA f = X at *
  cases lb
  · obtain rfl : N = (1, (FB, eB)) := by rw [HN.out]; rfl
    dsimp only
    generalize flA FB = XB at *
    have HB := hide (Below.refl w.heap.size w)
    obtain ⟨W1, hW1, r_f, z1, b1⟩ := alloc_nm w (.cells X 24)
    clear z1
    replace HB := hide (HB.out.trans (b1.mono HB.out.size))
    clear b1
    obtain ⟨W2, hW2, r_k, z2, b2⟩ := alloc_nm W1 (.cells #[.int .i64 kf, .int .i64 kn] 46)
    clear z2
    replace r_f := keepB b2 r_f
    replace HB := hide (HB.out.trans (b2.mono HB.out.size))
    clear b2
    obtain ⟨W3, hW3, r_r, z3, b3⟩ := alloc_nm W2 (.cells #[.int .i64 0, .int .i64 0, .int .i64 0] 24)
    clear z3
    replace r_f := keepB b3 r_f
    replace r_k := keepB b3 r_k
    replace HB := hide (HB.out.trans (b3.mono HB.out.size))
    clear b3
    have hgr : Hid (W2.heap.size = W2.heap.size) := hide rfl
    have hle : Hid (w.heap.size ≤ W2.heap.size) := hide (by have := congrArg (fun W => W.heap.size) hW1; have := congrArg (fun W => W.heap.size) hW2; simp at *; omega)
    go_enter Try.func48, Try.ntmps48
    have k0 := (cell_of_row W3 _ 0 _ _ (0, 0) r_k).trans (show (#[Value.int .i64 kf, .int .i64 kn] : Array Value)[0]? = some (.int .i64 kf) from rfl)
    have k1 := (cell_of_row W3 _ 1 _ _ (0, 0) r_k).trans (show (#[Value.int .i64 kf, .int .i64 kn] : Array Value)[1]? = some (.int .i64 kn) from rfl)
    go_wp2_with fail
    go_at_call 18
    with_reducible refine (KL.out _).mono ?_
    rintro e W4 ⟨rfl, b4⟩
    replace r_f := keepB b4 r_f
    replace r_k := keepB b4 r_k
    replace r_r := keepB b4 r_r
    replace HB := hide (HB.out.trans (b4.mono HB.out.size))
    clear b4
    dsimp only
    clear k0 k1
    have k0 := (cell_of_row W4 _ 0 _ _ (0, 0) r_k).trans (show (#[Value.int .i64 kf, .int .i64 kn] : Array Value)[0]? = some (.int .i64 kf) from rfl)
    have k1 := (cell_of_row W4 _ 1 _ _ (0, 0) r_k).trans (show (#[Value.int .i64 kf, .int .i64 kn] : Array Value)[1]? = some (.int .i64 kn) from rfl)
    go_wp2_with fail
    go_at_call 12
    with_reducible refine (KB.out _).mono ?_
    rintro e W5 ⟨rfl, b5⟩
    replace r_f := keepB b5 r_f
    replace r_k := keepB b5 r_k
    replace r_r := keepB b5 r_r
    replace HB := hide (HB.out.trans (b5.mono HB.out.size))
    clear b5
    dsimp only
    obtain ⟨W6, hW6, r_n, z6, b6⟩ := alloc_nm W5 (.cells XB 24)
    clear z6
    replace r_f := keepB b6 r_f
    replace r_k := keepB b6 r_k
    replace r_r := keepB b6 r_r
    replace HB := hide (HB.out.trans (b6.mono HB.out.size))
    clear b6
    have HR := hide r_r
    go_upto_region 5 with (fail)
    go_region_law (fail)
    all_goals go_wp2
    refine bodyPost_ret (results_tmp_cell_tmp (fn := Try.f48) Try.results48 _ _ W2.heap.size 24 XB (0, 0) _ rfl (setRow_heap _ _ _ _ _ _ HR.out) Try.underlying24 rfl HI2.out) rfl ?_
    exact ⟨rfl, below_setRow (below_drewV HB.out) hle.out _⟩
  · obtain rfl : N = (0, (FS, eS)) := by rw [HN.out]; rfl
    dsimp only
    generalize flA FS = XS at *
    have HB := hide (Below.refl w.heap.size w)
    obtain ⟨W1, hW1, r_f, z1, b1⟩ := alloc_nm w (.cells X 24)
    clear z1
    replace HB := hide (HB.out.trans (b1.mono HB.out.size))
    clear b1
    obtain ⟨W2, hW2, r_k, z2, b2⟩ := alloc_nm W1 (.cells #[.int .i64 kf, .int .i64 kn] 46)
    clear z2
    replace r_f := keepB b2 r_f
    replace HB := hide (HB.out.trans (b2.mono HB.out.size))
    clear b2
    obtain ⟨W3, hW3, r_r, z3, b3⟩ := alloc_nm W2 (.cells #[.int .i64 0, .int .i64 0, .int .i64 0] 24)
    clear z3
    replace r_f := keepB b3 r_f
    replace r_k := keepB b3 r_k
    replace HB := hide (HB.out.trans (b3.mono HB.out.size))
    clear b3
    have hgr : Hid (W2.heap.size = W2.heap.size) := hide rfl
    have hle : Hid (w.heap.size ≤ W2.heap.size) := hide (by have := congrArg (fun W => W.heap.size) hW1; have := congrArg (fun W => W.heap.size) hW2; simp at *; omega)
    go_enter Try.func48, Try.ntmps48
    have k0 := (cell_of_row W3 _ 0 _ _ (0, 0) r_k).trans (show (#[Value.int .i64 kf, .int .i64 kn] : Array Value)[0]? = some (.int .i64 kf) from rfl)
    have k1 := (cell_of_row W3 _ 1 _ _ (0, 0) r_k).trans (show (#[Value.int .i64 kf, .int .i64 kn] : Array Value)[1]? = some (.int .i64 kn) from rfl)
    go_wp2_with fail
    go_at_call 18
    with_reducible refine (KL.out _).mono ?_
    rintro e W4 ⟨rfl, b4⟩
    replace r_f := keepB b4 r_f
    replace r_k := keepB b4 r_k
    replace r_r := keepB b4 r_r
    replace HB := hide (HB.out.trans (b4.mono HB.out.size))
    clear b4
    dsimp only
    clear k0 k1
    have k0 := (cell_of_row W4 _ 0 _ _ (0, 0) r_k).trans (show (#[Value.int .i64 kf, .int .i64 kn] : Array Value)[0]? = some (.int .i64 kf) from rfl)
    have k1 := (cell_of_row W4 _ 1 _ _ (0, 0) r_k).trans (show (#[Value.int .i64 kf, .int .i64 kn] : Array Value)[1]? = some (.int .i64 kn) from rfl)
    go_wp2_with fail
    go_at_call 14
    with_reducible refine (KS.out _).mono ?_
    rintro e W5 ⟨rfl, b5⟩
    replace r_f := keepB b5 r_f
    replace r_k := keepB b5 r_k
    replace r_r := keepB b5 r_r
    replace HB := hide (HB.out.trans (b5.mono HB.out.size))
    clear b5
    dsimp only
    obtain ⟨W6, hW6, r_n, z6, b6⟩ := alloc_nm W5 (.cells XS 24)
    clear z6
    replace r_f := keepB b6 r_f
    replace r_k := keepB b6 r_k
    replace r_r := keepB b6 r_r
    replace HB := hide (HB.out.trans (b6.mono HB.out.size))
    clear b6
    have HR := hide r_r
    go_upto_region 3 with (fail)
    go_region_law (fail)
    all_goals go_wp2
    refine bodyPost_ret (results_tmp_cell_tmp (fn := Try.f48) Try.results48 _ _ W2.heap.size 24 XS (0, 0) _ rfl (setRow_heap _ _ _ _ _ _ HR.out) Try.underlying24 rfl HI.out) rfl ?_
    exact ⟨rfl, below_setRow (below_drewV HB.out) hle.out _⟩
end Go.Proofs.Ytbkipfmnbfjkcaa
