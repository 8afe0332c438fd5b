/-
  The walks of the other way round.
-/
import Derived.Test.YtmhoedbhfaocjabTum
namespace Go.Proofs.Ytmhoedbhfaocjab
open Go.RowKit
attribute [local go_sem ↓] exec_span exec_put exec_build heap_alloc_new heap_old
attribute [local go_sem] spanQ_ptr spanC_some heap_of_drew heap_of_drewN rs_arr rs_ad rs_tup putAt_ptr putOk_ptr oldOk_some built_none World.setRow_alloc_new
set_option maxRecDepth 100000
set_option linter.unusedVariables false
set_option linter.unusedSimpArgs false

theorem built_tup32 (v v' : Bool) (p s d : Int) (a0 a1 a2 a3 a4 a5 a6 a7 a8 a9 a10 a11 a12 a13 a14 a15 b0 b1 b2 b3 b4 b5 b6 b7 b8 b9 b10 b11 b12 b13 b14 b15 : UInt8) : Try.prog.built 43 [(0, .agg (adL v [a0, a1, a2, a3, a4, a5, a6, a7, a8, a9, a10, a11, a12, a13, a14, a15]).toArray), (1, .agg (adL v' [b0, b1, b2, b3, b4, b5, b6, b7, b8, b9, b10, b11, b12, b13, b14, b15]).toArray), (2, .int .i64 p), (3, .int .i64 s), (4, .int .i64 d)] = some (tupL ⟨v, [a0, a1, a2, a3, a4, a5, a6, a7, a8, a9, a10, a11, a12, a13, a14, a15], v', [b0, b1, b2, b3, b4, b5, b6, b7, b8, b9, b10, b11, b12, b13, b14, b15], p, s, d⟩).toArray := by kernel_rfl
theorem built_tup (v v' : Bool) (p s d : Int) (l l' : List UInt8) (h : l.length = 16) (h' : l'.length = 16) : Try.prog.built 43 [(0, .agg (adL v l).toArray), (1, .agg (adL v' l').toArray), (2, .int .i64 p), (3, .int .i64 s), (4, .int .i64 d)] = some (tupL ⟨v, l, v', l', p, s, d⟩).toArray := by
  match l, l', h, h' with
  | [_, _, _, _, _, _, _, _, _, _, _, _, _, _, _, _], [_, _, _, _, _, _, _, _, _, _, _, _, _, _, _, _], _, _ => exact built_tup32 _ _ _ _ _ _ _ _ _ _ _ _ _ _ _ _ _ _ _ _ _ _ _ _ _ _ _ _ _ _ _ _ _ _ _ _ _

def tupZ : Array Value := (tupL ⟨false, List.replicate 16 0, false, List.replicate 16 0, 0, 0, 0⟩).toArray
theorem tupZ_ok : tupZ = #[Value.bool false, Value.int IntKind.u8 0, Value.int IntKind.u8 0, Value.int IntKind.u8 0, Value.int IntKind.u8 0, Value.int IntKind.u8 0, Value.int IntKind.u8 0, Value.int IntKind.u8 0, Value.int IntKind.u8 0, Value.int IntKind.u8 0, Value.int IntKind.u8 0, Value.int IntKind.u8 0, Value.int IntKind.u8 0, Value.int IntKind.u8 0, Value.int IntKind.u8 0, Value.int IntKind.u8 0, Value.int IntKind.u8 0, Value.bool false, Value.int IntKind.u8 0, Value.int IntKind.u8 0, Value.int IntKind.u8 0, Value.int IntKind.u8 0, Value.int IntKind.u8 0, Value.int IntKind.u8 0, Value.int IntKind.u8 0, Value.int IntKind.u8 0, Value.int IntKind.u8 0, Value.int IntKind.u8 0, Value.int IntKind.u8 0, Value.int IntKind.u8 0, Value.int IntKind.u8 0, Value.int IntKind.u8 0, Value.int IntKind.u8 0, Value.int IntKind.u8 0, Value.int IntKind.i64 0, Value.int IntKind.i64 0, Value.int IntKind.i64 0] := rfl
theorem tupZ_size : tupZ.size = 37 := rfl
theorem tupZ_tu : TuV tupZ ⟨false, List.replicate 16 0, false, List.replicate 16 0, 0, 0, 0⟩ := TuV.mk' rfl rfl
theorem info_tup : (Try.prog.info? 43).map (·.size) = some 37 := by kernel_rfl

set_option maxHeartbeats 4000000 in
theorem refturn_any (w : World) (X : Array Value) (t : Tup) (h : TuV X t) :
    Calls Try.prog 33 #[.agg X] w fun e w' => e = .returned (.agg (tupL (turnT t)).toArray) ∧ Below w.heap.size w w' := by
  go_enter Try.func33, Try.ntmps33
  have hxs := h.size
  obtain ⟨S, hS⟩ : ∃ S, S = (adL t.sv t.sb).toArray := ⟨_, rfl⟩
  obtain ⟨D, hD⟩ : ∃ D, D = (adL t.dv t.db).toArray := ⟨_, rfl⟩
  have hsrc := h.src
  have hdst := h.dst
  rw [← hS] at hsrc
  rw [← hD] at hdst
  have hbd : Try.prog.built 43 [(0, .agg D), (1, .agg S), (2, .int .i64 t.p), (3, .int .i64 t.d), (4, .int .i64 t.s)] = some (tupL (turnT t)).toArray := by
    rw [hS, hD]
    exact built_tup _ _ _ _ _ _ _ h.ld h.ls
  have hR : TuV (tupL (turnT t)).toArray (turnT t) := TuV.mk' h.ld h.ls
  obtain ⟨R, hRR⟩ : ∃ R, R = (tupL (turnT t)).toArray := ⟨_, rfl⟩
  rw [← hRR] at hbd hR ⊢
  have hrs := hR.size
  have hro := hR.one
  have hr0 := hR.x0
  obtain ⟨W, hW, h1, h2, hz, hb⟩ := two_blocks w (.cells X 43) (.cells tupZ 43)
  rw [tupZ_ok] at hW
  have hzs := tupZ_size
  have hzo : allOne tupZ = true := tupZ_tu.one
  obtain ⟨k1, k2, k3, k4, k5⟩ := h.cells h1
  have hB := hide hb
  have H2 := hide h2
  clear hS hD hRR hR k1 k2 hz hb
  obtain ⟨pp, hpp⟩ : ∃ b, b = t.p := ⟨_, rfl⟩
  obtain ⟨ps, hps⟩ : ∃ b, b = t.s := ⟨_, rfl⟩
  obtain ⟨pd, hpd⟩ : ∃ b, b = t.d := ⟨_, rfl⟩
  rw [← hpp] at k3 hbd
  rw [← hps] at k4 hbd
  rw [← hpd] at k5 hbd
  clear hpp hps hpd
  go_wp2
  refine bodyPost_ret (results_cell_row (fn := Try.f33) Try.results33 _ _ (w.heap.size + 1) 43 R (0, 0) _ rfl (setRow_heap W _ _ _ _ _ H2.out) Try.underlying43 rfl (by rw [hrs]; exact info_tup)) rfl ⟨rfl, below_setRow hB.out (by omega) _⟩
end Go.Proofs.Ytmhoedbhfaocjab
