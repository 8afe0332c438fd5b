/-
  Loads of whole structs and arrays in one step of the walk, in whatever region: what the cells of a block say.
-/
import Derived.Test.YtbkipfmnbfjkcaaAd
import Derived.Test.YtbkipfmnbfjkcaaSp
namespace Go.Proofs.Ytbkipfmnbfjkcaa
open Go.RowKit

theorem built_kind (v : Bool) : Try.prog.built 61 [(0, .bool v)] = some (adL v (List.replicate 16 0)).toArray := by kernel_rfl
theorem built_sixteen (v : Bool) (b0 b1 b2 b3 b4 b5 b6 b7 b8 b9 b10 b11 b12 b13 b14 b15 : UInt8) : Try.prog.built 61 [(0, .bool v), (1, .agg ([b0, b1, b2, b3, b4, b5, b6, b7, b8, b9, b10, b11, b12, b13, b14, b15].map byteV).toArray)] = some (adL v [b0, b1, b2, b3, b4, b5, b6, b7, b8, b9, b10, b11, b12, b13, b14, b15]).toArray := by kernel_rfl
theorem built_both (v : Bool) (l : List UInt8) (h : l.length = 16) : Try.prog.built 61 [(0, .bool v), (1, .agg (l.map byteV).toArray)] = some (adL v l).toArray := by
  match l, h with
  | [_, _, _, _, _, _, _, _, _, _, _, _, _, _, _, _], _ => exact built_sixteen _ _ _ _ _ _ _ _ _ _ _ _ _ _ _ _ _

/-- an address that nothing has been put into. -/
def adZ : Array Value := (adL false (List.replicate 16 0)).toArray
theorem adZ_ok : adZ = #[Value.bool false, Value.int IntKind.u8 0, Value.int IntKind.u8 0, Value.int IntKind.u8 0, Value.int IntKind.u8 0, Value.int IntKind.u8 0, Value.int IntKind.u8 0, Value.int IntKind.u8 0, Value.int IntKind.u8 0, Value.int IntKind.u8 0, Value.int IntKind.u8 0, Value.int IntKind.u8 0, Value.int IntKind.u8 0, Value.int IntKind.u8 0, Value.int IntKind.u8 0, Value.int IntKind.u8 0, Value.int IntKind.u8 0] := rfl
theorem adZ_size : adZ.size = 17 := rfl
theorem built_none : Try.prog.built 61 [] = some adZ := by kernel_rfl
theorem adZ_ad : AdV adZ false (List.replicate 16 0) := AdV.mk' rfl

theorem rs_arr : rowSize Try.prog 59 = some 16 := by kernel_rfl
theorem rs_ad : rowSize Try.prog 61 = some 17 := by kernel_rfl

/-! what an address's cells are, cut out of its block -/
theorem AdV.x0 {X : Array Value} {v : Bool} {l : List UInt8} (h : AdV X v l) : X.extract 0 17 = X := by
  rw [← h.size]; simp
theorem AdV.x1 {X : Array Value} {v : Bool} {l : List UInt8} (h : AdV X v l) : X.extract 1 17 = (l.map byteV).toArray := by
  rw [h.eq, List.extract_toArray]
  congr 1
  simp only [adL, List.extract_eq_take_drop]
  rw [List.drop_succ_cons, List.drop_zero, List.take_of_length_le (by simp [h.len])]
end Go.Proofs.Ytbkipfmnbfjkcaa
