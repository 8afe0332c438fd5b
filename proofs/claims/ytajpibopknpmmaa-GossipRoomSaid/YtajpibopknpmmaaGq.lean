/-
  The walk of GossipNil.
-/
import Derived.Test.YtajpibopknpmmaaGp
namespace Go.Proofs.Ytajpibopknpmmaa
open Go.RowKit
set_option maxRecDepth 100000
set_option linter.unusedVariables false
set_option linter.unusedSimpArgs false

theorem Calls.bel_eq {P : Program} {f : FuncId} {args : Array Value} {w0 : World} {p : BW w0} {v : Value}
    (h : Calls P f args p.w fun e w' => e = .returned v ∧ w' = p.w) : Calls P f args p.w fun e w'' => e = .returned v ∧ ∃ q : BW w0, w'' = q.w :=
  h.mono fun _ _ ⟨he, hb⟩ => ⟨he, p, hb⟩
set_option maxHeartbeats 4000000 in
theorem gossipNil_any (w : World) (k : Int) (A : Option Addr) (n c : Nat) (t : Int) : Calls Try.prog 7 #[.int .i64 k, .slice A n c, .int .i64 t] w (RetV w (.bool true)) := by
  have K1 := hide (fun p : BW w => putN_any p.w k A n c t)
  have K2 := hide (fun p : BW w => pickN_any p.w t)
  have K3 := hide (fun p : BW w => leftN_any p.w k)
  have K4 := hide (fun p : BW w => lenN_any p.w)
  have K5 := hide (fun p : BW w => known15_any p.w)
  go_enter Try.func7, Try.ntmps7
  go_upto_region 2 with (fail)
  first | refine wp_region_belowS w (Below.refl _ _) ?_ | refine wp_region_below w (Below.refl _ _) (by kernel_rfl) (by kernel_rfl) ?_
  try simp only [List.append_eq, List.cons_append, List.nil_append]
  repeat
    first
    | (go_big_quiet_step (first
    | ((go_at_call 12; with_reducible exact Calls.bel_eq (K1.out _)))
    | ((go_at_call 16; with_reducible exact Calls.bel_eq (K2.out _)))
    | ((go_at_call 20; with_reducible exact Calls.bel_eq (K3.out _)))
    | ((go_at_call 22; with_reducible exact Calls.bel_eq (K4.out _)))
    | ((go_at_call 10; with_reducible exact Calls.bel (K5.out _)))
    | fail))
  refine wpQuiet_nil ?_
  intro _ hw'
  obtain ⟨pq, hw''⟩ := hw'
  subst hw''
  go_wp2
  go_ret
  exact ⟨rfl, pq.below⟩
end Go.Proofs.Ytajpibopknpmmaa
