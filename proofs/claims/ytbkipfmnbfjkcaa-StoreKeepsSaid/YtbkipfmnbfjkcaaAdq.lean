/-
  The equality of two addresses, as the walk asks it.
-/
import Derived.Test.YtbkipfmnbfjkcaaAdr
namespace Go.Proofs.Ytbkipfmnbfjkcaa
open Go.RowKit
attribute [local go_sem ↓] exec_span exec_put exec_build heap_alloc_new heap_old
attribute [local go_sem] spanQ_ptr spanC_some heap_of_drew rs_arr rs_ad putAt_ptr putOk_ptr oldOk_some built_none World.setRow_alloc_new
set_option maxRecDepth 100000
set_option linter.unusedVariables false

theorem part_kind (X : Array Value) (v : Bool) (h0 : X[0]? = some (.bool v)) (w : World) : (part 4 X 0).run Try.prog w = .ok (.bool v) w := by
  have hu := Try.underlying4
  simp [part, isAgg, run_underlying hu, h0]
theorem size_arr : ∀ w, (sizeOf 59).run Try.prog w = .ok 16 w := fun _ => by kernel_rfl
theorem isagg_arr : ∀ w, (isAgg 59).run Try.prog w = .ok true w := fun _ => by kernel_rfl
theorem part_arr (X : Array Value) (l : List UInt8) (hs : X.size = 17) (h1 : X.extract 1 17 = (l.map byteV).toArray) (w : World) : (part 59 X 1).run Try.prog w = .ok (.agg (l.map byteV).toArray) w := by
  simp [part, hs, h1]
theorem fields_ad : (Try.prog.fieldsOf 61).toList.map (fun f => (f.type, f.offset, f.name)) = [(4, 0, "V6"), (59, 1, "B")] := by kernel_rfl
theorem under_ad : Try.prog.underlying 61 = some (.struct (Try.prog.fieldsOf 61)) := by kernel_rfl
theorem held_ad : Try.prog.stoodInHeld 61 = false := by kernel_rfl
theorem list_two {α β : Type} {g : α → β} {a b : β} : ∀ {L : List α}, L.map g = [a, b] → ∃ x y, L = [x, y] ∧ g x = a ∧ g y = b
  | [x, y], h => by simp at h; exact ⟨x, y, rfl, h.1, h.2⟩
  | [], h => by simp at h
  | [_], h => by simp at h
  | _ :: _ :: _ :: _, h => by simp at h
theorem equalIn_ad (d : Nat) (w : World) (X Y : Array Value) (v v' : Bool) (l l' : List UInt8) (h : AdV X v l) (h' : AdV Y v' l') : (Op.equalIn (d + 4) 61 (.agg X) (.agg Y)).run Try.prog w = .ok (v == v' && l == l') w := by
  rw [run_equalIn_struct w (d + 3) 61 X Y under_ad held_ad]
  obtain ⟨f0, f1, hfs, e0, e1⟩ := list_two fields_ad
  rw [hfs]
  simp only [Prod.mk.injEq] at e0 e1
  obtain ⟨t0, o0, n0⟩ := e0
  obtain ⟨t1, o1, n1⟩ := e1
  simp only [Op.eqFields, t0, o0, n0, t1, o1, n1]
  rw [if_pos (by decide), if_pos (by decide)]
  have e1 := run_equalIn_bool' (P := Try.prog) w (d + 2) 4 v v' Try.underlying4
  have e2 := run_equalIn_bytes (P := Try.prog) w (d + 1) 59 5 16 Try.underlying59 Try.underlying5 sizeof_u8 l l' h.len h'.len
  simp only [Sem.run_bind, part_kind X v h.c0, part_kind Y v' h'.c0, Result.andThen_ok, e1]
  cases hvv : (v == v')
  · simp
  · simp only [Bool.not_true, Bool.false_eq_true, if_false, Bool.true_and, Sem.run_bind, part_arr X l h.size h.x1, part_arr Y l' h'.size h'.x1, Result.andThen_ok]
    have e3 : (Op.equalIn (d + 3) 59 (.agg (l.map byteV).toArray) (.agg (l'.map byteV).toArray)).run Try.prog w = .ok (l == l') w := e2
    rw [e3]
    cases (l == l') <;> simp
theorem eql_ad (w : World) (X Y : Array Value) (v v' : Bool) (l l' : List UInt8) (h : AdV X v l) (h' : AdV Y v' l') : (binOp .eql 61 (.agg X) (.agg Y)).run Try.prog w = .ok (.bool (v == v' && l == l')) w := by
  rw [run_eql_struct, equalIn_ad 9996 w X Y v v' l l' h h']
  rfl
theorem neq_ad (w : World) (X Y : Array Value) (v v' : Bool) (l l' : List UInt8) (h : AdV X v l) (h' : AdV Y v' l') : (binOp .neq 61 (.agg X) (.agg Y)).run Try.prog w = .ok (.bool (!(v == v' && l == l'))) w := by
  rw [run_neq_struct, equalIn_ad 9996 w X Y v v' l l' h h']
  rfl
end Go.Proofs.Ytbkipfmnbfjkcaa
