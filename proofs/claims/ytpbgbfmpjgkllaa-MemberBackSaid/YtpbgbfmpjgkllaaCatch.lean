/-
  The walk of the deferred closure that catches a piece's panic, and of attempt, which begins: the error stays.
-/
import Derived.Test.YtpbgbfmpjgkllaaRunD
import Derived.Defers
import Derived.Recover
import Derived.RegionTactic
import Derived.ChangeAlike
namespace Go.Proofs.Ytpbgbfmpjgkllaa
open Go.RowKit
set_option maxRecDepth 100000

theorem assert_errno (er : Int) : ∀ W, (Instr.typeAssert (.iface 34 (.int .i64 er)) 20 34 false).run Try.prog W = .ok (.int .i64 er) W := fun _ => by kernel_rfl

set_option maxHeartbeats 1000000 in
theorem catch_panicking (w : World) (B g : Nat) (A : Option Addr) (n c k : Nat) (er0 er : Int) (older : List PanicEntry) (hB : w.heap[B]? = some (.cells #[.pointer (some ⟨g, 0, none⟩)] 99 (0, 0))) (h : Rd w g A n c k er0) :
    CallsD Try.prog 71 #[.pointer (some ⟨B, 0, none⟩)] (.panicking ({ v := .iface 34 (.int .i64 er), recovered := false } :: older)) w fun e u' w' =>
      e = .returned (.tuple #[]) ∧ u' = .panicking ({ v := .iface 34 (.int .i64 er), recovered := true } :: older) ∧ w' = w.drew.setCell ⟨g, 2, none⟩ (.int .i64 er) := by
  have hc := one_cell hB
  have h2 := h.c2
  have hf2 := h.fr 2
  have hta := assert_errno er
  refine callsD_of_wpS Try.func71 rfl fun c₀ cs hu => ?_
  apply wpS_seq
  apply wpS_region
  simp [wpOpsS, go_sem, recoverD, hu, Try.ntmps71, Exit.thenS]
  have e1 : (#[Value.pointer (some { block := B, off := 0 })] ++ ((Array.replicate 9 undef).setIfInBounds 1 (Value.iface 34 (Value.int IntKind.i64 er))).setIfInBounds 0 (Value.iface 34 (Value.int IntKind.i64 er))) =
      #[Value.pointer (some { block := B, off := 0 }), Value.iface 34 (Value.int IntKind.i64 er), Value.iface 34 (Value.int IntKind.i64 er), undef, undef, undef, undef, undef, undef, undef] := rfl
  rw [e1]
  refine wpS_of_wp ?_
  go_wp2
  go_region
  exact ⟨rfl, _, rfl, .tuple #[], by simp [results, Try.results71], rfl, rfl, rfl⟩

theorem catch_idle (p : Addr) (w : World) :
    CallsD Try.prog 71 #[.pointer (some p)] .returning w fun e u' w' => e = .returned (.tuple #[]) ∧ u' = .returning ∧ w' = w := by
  refine callsD_of_wpS Try.func71 rfl fun c₀ cs hu => ?_
  apply wpS_seq
  apply wpS_region
  simp [wpOpsS, go_sem, recoverD, hu, Try.ntmps71, Exit.thenS]
  have e1 : (#[Value.pointer (some p)] ++ ((Array.replicate 9 undef).setIfInBounds 1 Value.nilIface).setIfInBounds 0 Value.nilIface) =
      #[Value.pointer (some p), Value.nilIface, Value.nilIface, undef, undef, undef, undef, undef, undef, undef] := rfl
  rw [e1]
  refine wpS_of_wp ?_
  go_wp2
  cases c₀
  simp_all [bodyPostS, results, Try.results71]

/-- what a call of attempt leaves: S, and the error that stays. -/
def Stays (g : Nat) (S : Int → World → Prop) (w' : World) : Prop :=
  S 0 w' ∨ ∃ er w1, er ≠ 0 ∧ S er w1 ∧ w' = w1.drew.setCell ⟨g, 2, none⟩ (.int .i64 er)

set_option maxHeartbeats 1000000 in
theorem attempt_any (w : World) (g : Nat) (A : Option Addr) (n c k : Nat) (F : FuncId) (cap : Array Value) (S : Int → World → Prop) (h : Rd w g A n c k 0) (hcf : ∀ W, (callFunc F cap).run Try.prog W = .ok (.enter F cap) W)
    (hF : Calls Try.prog F cap (w.alloc (.cells #[.pointer (some ⟨g, 0, none⟩)] 99)) fun e w' => (e = .returned (.tuple #[]) ∧ S 0 w') ∨ ∃ er, er ≠ 0 ∧ e = giveUp er ∧ S er w')
    (hS : ∀ er w', S er w' → w'.heap[w.heap.size]? = some (.cells #[.pointer (some ⟨g, 0, none⟩)] 99 (0, 0)) ∧ ∃ k', Rd w' g A n c k' 0) :
    Calls Try.prog 62 #[.pointer (some ⟨g, 0, none⟩), .func (Fn.func F) #[] cap] w fun e w' => e = .returned (.tuple #[]) ∧ Stays g S w' := by
  have hmf : ∀ (fn : Fn) (first cap : Array Value) (w : World), (Instr.makeFunc fn first cap).run Try.prog w = .ok (.func fn first cap) w := fun _ _ _ _ => rfl
  have herr := err_any (w.alloc (.cells #[.pointer (some ⟨g, 0, none⟩)] 99)) g A n c k 0 (h.alloc _)
  have HF := hide hF
  have HS := hide hS
  clear hF hS
  go_enter_defers Try.func62, Try.ntmps62
  go_wp2_with fail
  refine herr.mono ?_
  rintro e w1 ⟨rfl, rfl⟩
  go_wp2_with fail
  refine HF.out.mono ?_
  rintro e w1 (⟨rfl, hs⟩ | ⟨er, hne, rfl, hs⟩)
  · have HSS := hide hs
    clear hs
    go_wp2
    refine leaves_cons (f := 71) (args := #[.pointer (some ⟨w.heap.size, 0, none⟩)]) (by simp) (by simp [go_sem]) ?_
    refine (catch_idle ⟨w.heap.size, 0, none⟩ _).mono ?_
    rintro e u' w'' ⟨rfl, rfl, rfl⟩
    refine ⟨.tuple #[], by simp [results, Try.results62], rfl, .inl HSS.out⟩
  · obtain ⟨hbox, k', hrd⟩ := HS.out er w1 hs
    have HSS := hide hs
    have HB := hide hbox
    clear hs hbox
    go_wp2
    refine leaves_cons (f := 71) (args := #[.pointer (some ⟨w.heap.size, 0, none⟩)]) (by simp) (by simp [go_sem]) ?_
    refine (catch_panicking _ w.heap.size g A n c k' 0 er [] HB.out hrd).mono ?_
    rintro e u' w'' ⟨rfl, rfl, rfl⟩
    refine ⟨.tuple #[], by simp [results, Try.results62], rfl, .inr ⟨er, _, hne, HSS.out, rfl⟩⟩
end Go.Proofs.Ytpbgbfmpjgkllaa
