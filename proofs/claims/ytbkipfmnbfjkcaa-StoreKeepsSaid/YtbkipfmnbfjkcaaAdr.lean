/-
  The walks of the document's own masks: bit by bit; of Within; and of fixed calls.
-/
import Derived.Test.YtbkipfmnbfjkcaaAdk
import Derived.Deep.WholeRow
namespace Go.Proofs.Ytbkipfmnbfjkcaa
open Go.RowKit
attribute [local go_sem ↓] exec_span exec_put exec_build heap_alloc_new
attribute [local go_sem] spanQ_ptr spanC_some heap_of_drew rs_arr rs_ad putAt_ptr putOk_ptr oldOk_some built_none World.setRow_alloc_new
set_option maxRecDepth 100000
set_option linter.unusedVariables false

theorem wrap_i (n : Int) (h1 : -9223372036854775808 ≤ n) (h2 : n ≤ 9223372036854775807) : IntKind.i64.wrap n = n := by rw [IntKind.wrap_i64]; omega
theorem wrap_u (n : Int) (h1 : 0 ≤ n) (h2 : n ≤ 18446744073709551615) : IntKind.u64.wrap n = n := by rw [IntKind.wrap_u64]; omega

theorem bit_table : ∀ (r : Fin 8) (x : Fin 256), bits .and .u8 ((x.val : Int) / 2 ^ (7 - r.val)) 1 = ((x.val / 2 ^ (7 - r.val) % 2 : Nat) : Int) := by decide +kernel
theorem bit_eq (x : UInt8) (r : Nat) (hr : r < 8) : bits .and .u8 ((x.toNat : Int) / 2 ^ (7 - r)) 1 = ((x.toNat / 2 ^ (7 - r) % 2 : Nat) : Int) := bit_table ⟨r, hr⟩ ⟨x.toNat, x.toNat_lt⟩

theorem or_table : ∀ (r : Fin 8) (x : Fin 256), bits .or .u8 ((x.val / 2 ^ (8 - r.val) * 2 ^ (8 - r.val) : Nat) : Int) (IntKind.u8.wrap (((x.val / 2 ^ (7 - r.val) % 2 : Nat) : Int) * 2 ^ (7 - r.val))) = ((x.val / 2 ^ (8 - (r.val + 1)) * 2 ^ (8 - (r.val + 1)) : Nat) : Int) := by decide +kernel
theorem or_eq (x : UInt8) (r : Nat) (hr : r < 8) : bits .or .u8 ((tb x r).toNat : Int) (IntKind.u8.wrap (((x.toNat / 2 ^ (7 - r) % 2 : Nat) : Int) * 2 ^ (7 - r))) = ((tb x (r + 1)).toNat : Int) := by
  have := or_table ⟨r, hr⟩ ⟨x.toNat, x.toNat_lt⟩
  rw [tb_toNat, tb_toNat]
  exact this
theorem AdV.set {v : Bool} {l : List UInt8} (h : l.length = 16) (j : Nat) (u : UInt8) : (adL v l).toArray.setIfInBounds (1 + j) (.int .u8 (u.toNat : Int)) = (adL v (l.set j u)).toArray := by
  rw [List.setIfInBounds_toArray, Nat.add_comm]
  unfold adL
  rw [List.set_cons_succ, List.map_set]
  rfl

theorem adk_ad (v : Bool) : AdV (adL v (List.replicate 16 0)).toArray v (List.replicate 16 0) := AdV.mk' rfl

end Go.Proofs.Ytbkipfmnbfjkcaa
