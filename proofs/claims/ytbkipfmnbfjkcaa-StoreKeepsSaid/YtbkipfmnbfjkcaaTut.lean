/-
  The walks of the other way round.
-/
import Derived.Test.YtbkipfmnbfjkcaaTum
namespace Go.Proofs.Ytbkipfmnbfjkcaa
open Go.RowKit
attribute [local go_sem ↓] exec_span exec_put exec_build heap_alloc_new heap_old
attribute [local go_sem] spanQ_ptr spanC_some heap_of_drew heap_of_drewN rs_arr rs_ad rs_tup putAt_ptr putOk_ptr oldOk_some built_none World.setRow_alloc_new
set_option maxRecDepth 100000
set_option linter.unusedVariables false
set_option linter.unusedSimpArgs false

theorem built_tup32 (v v' : Bool) (p s d : Int) (a0 a1 a2 a3 a4 a5 a6 a7 a8 a9 a10 a11 a12 a13 a14 a15 b0 b1 b2 b3 b4 b5 b6 b7 b8 b9 b10 b11 b12 b13 b14 b15 : UInt8) : Try.prog.built 63 [(0, .agg (adL v [a0, a1, a2, a3, a4, a5, a6, a7, a8, a9, a10, a11, a12, a13, a14, a15]).toArray), (1, .agg (adL v' [b0, b1, b2, b3, b4, b5, b6, b7, b8, b9, b10, b11, b12, b13, b14, b15]).toArray), (2, .int .i64 p), (3, .int .i64 s), (4, .int .i64 d)] = some (tupL ⟨v, [a0, a1, a2, a3, a4, a5, a6, a7, a8, a9, a10, a11, a12, a13, a14, a15], v', [b0, b1, b2, b3, b4, b5, b6, b7, b8, b9, b10, b11, b12, b13, b14, b15], p, s, d⟩).toArray := by kernel_rfl
theorem built_tup (v v' : Bool) (p s d : Int) (l l' : List UInt8) (h : l.length = 16) (h' : l'.length = 16) : Try.prog.built 63 [(0, .agg (adL v l).toArray), (1, .agg (adL v' l').toArray), (2, .int .i64 p), (3, .int .i64 s), (4, .int .i64 d)] = some (tupL ⟨v, l, v', l', p, s, d⟩).toArray := by
  match l, l', h, h' with
  | [_, _, _, _, _, _, _, _, _, _, _, _, _, _, _, _], [_, _, _, _, _, _, _, _, _, _, _, _, _, _, _, _], _, _ => exact built_tup32 _ _ _ _ _ _ _ _ _ _ _ _ _ _ _ _ _ _ _ _ _ _ _ _ _ _ _ _ _ _ _ _ _ _ _ _ _

def tupZ : Array Value := (tupL ⟨false, List.replicate 16 0, false, List.replicate 16 0, 0, 0, 0⟩).toArray
theorem tupZ_ok : tupZ = #[Value.bool false, Value.int IntKind.u8 0, Value.int IntKind.u8 0, Value.int IntKind.u8 0, Value.int IntKind.u8 0, Value.int IntKind.u8 0, Value.int IntKind.u8 0, Value.int IntKind.u8 0, Value.int IntKind.u8 0, Value.int IntKind.u8 0, Value.int IntKind.u8 0, Value.int IntKind.u8 0, Value.int IntKind.u8 0, Value.int IntKind.u8 0, Value.int IntKind.u8 0, Value.int IntKind.u8 0, Value.int IntKind.u8 0, Value.bool false, Value.int IntKind.u8 0, Value.int IntKind.u8 0, Value.int IntKind.u8 0, Value.int IntKind.u8 0, Value.int IntKind.u8 0, Value.int IntKind.u8 0, Value.int IntKind.u8 0, Value.int IntKind.u8 0, Value.int IntKind.u8 0, Value.int IntKind.u8 0, Value.int IntKind.u8 0, Value.int IntKind.u8 0, Value.int IntKind.u8 0, Value.int IntKind.u8 0, Value.int IntKind.u8 0, Value.int IntKind.u8 0, Value.int IntKind.i64 0, Value.int IntKind.i64 0, Value.int IntKind.i64 0] := rfl
theorem tupZ_size : tupZ.size = 37 := rfl
theorem tupZ_tu : TuV tupZ ⟨false, List.replicate 16 0, false, List.replicate 16 0, 0, 0, 0⟩ := TuV.mk' rfl rfl
theorem info_tup : (Try.prog.info? 63).map (·.size) = some 37 := by kernel_rfl

end Go.Proofs.Ytbkipfmnbfjkcaa
