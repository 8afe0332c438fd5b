/-
  Flows: what a packet's flags do to a state; a flow behind a packet.
-/
import Derived.Test.YtbkipfmnbfjkcaaVb
import Derived.Test.YtbkipfmnbfjkcaaBits
import Derived.Deep.WholeRow
namespace Go.Proofs.Ytbkipfmnbfjkcaa
open Go.RowKit
set_option maxRecDepth 100000
set_option linter.unusedVariables false
set_option linter.unusedSimpArgs false
attribute [local go_sem ↓] exec_span exec_put exec_build heap_alloc_new heap_old
attribute [local go_sem] spanQ_ptr spanC_some heap_of_drew heap_of_drewN putAt_ptr putOk_ptr oldOk_some World.setRow_alloc_new rs_Flow rs_RFlow

def hasB (fl k : Int) : Bool := fl / k % 2 == 1
theorem and_dec (k : Nat) (h : ∀ n : Fin 256, (n.1 &&& k != 0) = (n.1 / k % 2 == 1)) (hk : k < 9223372036854775808) (fl : Int) (h0 : 0 ≤ fl) (h1 : fl ≤ 255) : (bits .and .i64 fl (k : Int) != 0) = hasB fl (k : Int) := by
  obtain ⟨n, rfl⟩ : ∃ n : Nat, fl = (n : Int) := ⟨fl.toNat, by omega⟩
  rw [i64_and_nat n k (by omega) hk]
  have := h ⟨n, by omega⟩
  unfold hasB
  rw [Bool.eq_iff_iff] at this ⊢
  simp only [bne_iff_ne, ne_eq, beq_iff_eq] at this ⊢
  omega
theorem and16 {fl : Int} (h0 : 0 ≤ fl) (h1 : fl ≤ 255) : (bits .and .i64 fl 16 != 0) = hasB fl 16 := and_dec 16 (by decide) (by omega) fl h0 h1
theorem and4 {fl : Int} (h0 : 0 ≤ fl) (h1 : fl ≤ 255) : (bits .and .i64 fl 4 != 0) = hasB fl 4 := and_dec 4 (by decide) (by omega) fl h0 h1
theorem and1 {fl : Int} (h0 : 0 ≤ fl) (h1 : fl ≤ 255) : (bits .and .i64 fl 1 != 0) = hasB fl 1 := and_dec 1 (by decide) (by omega) fl h0 h1
/-- what flags (Ack, Fin, Rst) make of a state. -/
def turnB (a f r : Bool) (s : Int) : Int := if r then 3 else if f then 2 else if a && s == 2 then 3 else s
def turnF (s fl : Int) : Int := turnB (hasB fl 16) (hasB fl 1) (hasB fl 4) s

theorem acked_any (w : World) (s : Int) : Calls Try.prog 82 #[.int .i64 s] w fun e w' => e = .returned (.int .i64 (if s = 2 then 3 else s)) ∧ w = w' := by
  by_cases h : s = 2
  · subst h
    go_enter Try.func82, Try.ntmps82
    go_wp2
    go_ret
    exact ⟨rfl, rfl⟩
  · rw [if_neg h]
    go_enter Try.func82, Try.ntmps82
    go_wp2
    go_ret
    exact ⟨rfl, rfl⟩
theorem signs1_any (w : World) (s : Int) : Calls Try.prog 83 #[.int .i64 s] w fun e w' => e = .returned (.int .i64 2) ∧ w = w' := by
  go_enter Try.func83, Try.ntmps83
  go_wp2
  go_ret
  exact ⟨rfl, rfl⟩
theorem signs2_any (w : World) (s : Int) : Calls Try.prog 84 #[.int .i64 s] w fun e w' => e = .returned (.int .i64 3) ∧ w = w' := by
  go_enter Try.func84, Try.ntmps84
  go_wp2
  go_ret
  exact ⟨rfl, rfl⟩
def sgA : Array Value := #[.int .i64 16, .func (.func 82) #[] #[], .int .i64 1, .func (.func 83) #[] #[], .int .i64 4, .func (.func 84) #[] #[]]
theorem rs_sign3 : rowSize Try.prog 119 = some 6 := by kernel_rfl
theorem rs_sign : rowSize Try.prog 118 = some 2 := by kernel_rfl
theorem built_sign (z : Int) (f : FuncId) : Try.prog.built 118 [(0, .int .i64 z), (1, .func (.func f) #[] #[])] = some #[.int .i64 z, .func (.func f) #[] #[]] := by kernel_rfl
theorem built_sign3 (z0 z1 z2 : Int) (f0 f1 f2 : FuncId) : Try.prog.built 119 [(0, .agg #[.int .i64 z0, .func (.func f0) #[] #[]]), (1, .agg #[.int .i64 z1, .func (.func f1) #[] #[]]), (2, .agg #[.int .i64 z2, .func (.func f2) #[] #[]])] = some #[.int .i64 z0, .func (.func f0) #[] #[], .int .i64 z1, .func (.func f1) #[] #[], .int .i64 z2, .func (.func f2) #[] #[]] := by kernel_rfl
attribute [local go_sem] rs_sign3 rs_sign built_sign built_sign3
set_option maxHeartbeats 1000000 in
theorem signs_any (w : World) : Calls Try.prog 68 #[] w (RetV w (.agg sgA)) := by
  have hao : allOne sgA = true := by simp [allOne, sgA, Value.oneCell']
  have hx : sgA.extract 0 6 = sgA := rfl
  unfold sgA at *
  go_enter Try.func68, Try.ntmps68
  go_wp2
  refine bodyPost_ret (results_cell_row (fn := Try.f68) Try.results68 _ _ w.heap.size 119 sgA (0, 0) _ rfl (heap_alloc_new _ _) Try.underlying119 rfl (by kernel_rfl)) rfl ?_
  exact ⟨rfl, (Below.refl _ _).alloc (Nat.le_refl _) _⟩
def ackI (s : Int) : Int := if s = 2 then 3 else s
def stT (a f r : Bool) (s : Int) : Nat → Int
  | 0 => s
  | 1 => if a then ackI s else s
  | 2 => if f then 2 else if a then ackI s else s
  | _ => turnB a f r s
theorem turn_st (a f r : Bool) (s : Int) : stT a f r s 3 = if r then 3 else stT a f r s 2 := by
  cases a <;> cases f <;> cases r <;> simp [stT, turnB, ackI]
theorem ix_sg0 (w : World) : (Instr.index 119 (.agg sgA) (.int .i64 0)).run Try.prog w = .ok (.agg #[.int .i64 16, .func (.func 82) #[] #[]]) w := by kernel_rfl
theorem ix_sg1 (w : World) : (Instr.index 119 (.agg sgA) (.int .i64 1)).run Try.prog w = .ok (.agg #[.int .i64 1, .func (.func 83) #[] #[]]) w := by kernel_rfl
theorem ix_sg2 (w : World) : (Instr.index 119 (.agg sgA) (.int .i64 2)).run Try.prog w = .ok (.agg #[.int .i64 4, .func (.func 84) #[] #[]]) w := by kernel_rfl
attribute [local go_sem] ix_sg0 ix_sg1 ix_sg2
set_option maxHeartbeats 4000000 in
theorem turned_any (w : World) (s fl : Int) (h0 : 0 ≤ fl) (h1 : fl ≤ 255) : Calls Try.prog 61 #[.int .i64 s, .int .i64 fl] w (RetV w (.int .i64 (turnF s fl))) := by
  have e16 := and16 h0 h1
  have e4 := and4 h0 h1
  have e1 := and1 h0 h1
  unfold turnF
  obtain ⟨a, ha⟩ : ∃ a, a = hasB fl 16 := ⟨_, rfl⟩
  obtain ⟨f, hf⟩ : ∃ f, f = hasB fl 1 := ⟨_, rfl⟩
  obtain ⟨r, hr⟩ : ∃ r, r = hasB fl 4 := ⟨_, rfl⟩
  rw [← ha] at e16
  rw [← hf] at e1
  rw [← hr] at e4
  rw [← ha, ← hf, ← hr]
  clear ha hf hr h0 h1
  have HT := hide (turn_st a f r s)
  have KS := hide (signs_any w)
  have KA := hide (fun W z => acked_any W z)
  have hao : ∀ z f, allOne #[.int .i64 z, .func (.func f) #[] #[]] = true := fun z f => by simp [allOne, Value.oneCell']
  go_enter Try.func61, Try.ntmps61
  go_wp2_with (first | (go_at_call 68; (with_reducible refine KS.out.mono ?_); rintro e w2 ⟨rfl, hb2⟩; have HB2 := hide hb2; clear hb2; dsimp only) | fail)
  go_loopw [0, 8] (fun u v wr => ∃ k : Nat, k ≤ 3 ∧ u = .int .i64 (stT a f r s k) ∧ v = .int .i64 (k : Int) ∧ Hid (Below w.heap.size w wr)) (fun _ v _ => 3 - (intOf v).toNat)
  case atStart => exact ⟨0, Nat.zero_le _, rfl, rfl, HB2⟩
  case round =>
    obtain ⟨k, hk, rfl, rfl, HBr⟩ := hrel
    match k, hk with
    | 0, _ =>
      cases a
      · go_wp2
        go_roundw
        case rel => exact ⟨1, by omega, by first | rfl | (cases a <;> rfl) | (rw [HT.out]; rfl), by go_num, hide (HBr.out.alloc HBr.out.size _)⟩
        case measure => simp [Go.RowKit.intOf]
      · go_wp2_with (first | (go_at_call 82; (with_reducible refine (KA.out _ _).mono ?_); rintro e w2 ⟨rfl, rfl⟩; dsimp only) | fail)
        go_roundw
        case rel => exact ⟨1, by omega, by first | rfl | (cases a <;> rfl) | (rw [HT.out]; rfl), by go_num, hide (HBr.out.alloc HBr.out.size _)⟩
        case measure => simp [Go.RowKit.intOf]
    | 1, _ =>
      cases f
      · go_wp2
        go_roundw
        case rel => exact ⟨2, by omega, by first | rfl | (cases a <;> rfl) | (rw [HT.out]; rfl), by go_num, hide (HBr.out.alloc HBr.out.size _)⟩
        case measure => simp [Go.RowKit.intOf]
      · go_wp2_with (first | (go_at_call 83; (with_reducible refine (signs1_any _ _).mono ?_); rintro e w2 ⟨rfl, rfl⟩; dsimp only) | fail)
        go_roundw
        case rel => exact ⟨2, by omega, by first | rfl | (cases a <;> rfl) | (rw [HT.out]; rfl), by go_num, hide (HBr.out.alloc HBr.out.size _)⟩
        case measure => simp [Go.RowKit.intOf]
    | 2, _ =>
      cases r
      · go_wp2
        go_roundw
        case rel => exact ⟨3, by omega, by first | rfl | (cases a <;> rfl) | (rw [HT.out]; rfl), by go_num, hide (HBr.out.alloc HBr.out.size _)⟩
        case measure => simp [Go.RowKit.intOf]
      · go_wp2_with (first | (go_at_call 84; (with_reducible refine (signs2_any _ _).mono ?_); rintro e w2 ⟨rfl, rfl⟩; dsimp only) | fail)
        go_roundw
        case rel => exact ⟨3, by omega, by first | rfl | (cases a <;> rfl) | (rw [HT.out]; rfl), by go_num, hide (HBr.out.alloc HBr.out.size _)⟩
        case measure => simp [Go.RowKit.intOf]
    | 3, _ =>
      go_wp2
      go_ret
      exact ⟨rfl, HBr.out⟩
end Go.Proofs.Ytbkipfmnbfjkcaa
