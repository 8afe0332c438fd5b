/-
  The walk of the statement HeaderPseudo.
-/
import Derived.Test.YtnhcfmmmghghgaaJk
import Derived.Test.YtnhcfmmmghghgaaRowP
import Derived.Deep.RegionHeld3
namespace Go.Proofs.Ytnhcfmmmghghgaa
open Go.RowKit
attribute [local go_sem ↓] exec_span exec_put exec_build heap_alloc_new heap_old
attribute [local go_sem] spanQ_ptr spanC_some heap_of_drew heap_of_drewN rs_arr rs_ad rs_ip rs_rip putAt_ptr putOk_ptr oldOk_some World.setRow_alloc_new
set_option maxRecDepth 100000
set_option linter.unusedVariables false
set_option linter.unusedSimpArgs false

theorem InP.below {W W' : World} {X : Array Value} {h : Ip} {O D : List UInt8} (p : InP W X h O D) (hb : Below W.heap.size W W') : InP W' X h O D :=
  ⟨p.x, (p.o.below hb).more hb.size, p.ol, p.oc, p.om, p.on, (p.d.below hb).more hb.size, p.dl, p.dc, p.dm, p.dn⟩
theorem InP.given {W : World} {X : Array Value} {h : Ip} {O D : List UInt8} (p : InP W X h O D) : Calls Try.prog 7 #[.agg X] W fun e w' => Given W h O D e w' :=
  given_any W X h p.x O D p.o p.ol p.d p.dl p.oc p.dc (by have := p.om; omega) (by have := p.dm; omega)

set_option maxHeartbeats 4000000 in
theorem headerPseudo_any (w : World) (X : Array Value) (h : Ip) (O D : List UInt8) (p : InP w X h O D) :
    Calls Try.prog 4 #[.agg X] w fun e w' => e = .returned (.bool true) ∧ Below w.heap.size w w' := by
  obtain ⟨W, hW, h1, hz, hb⟩ := one_block w (.cells X 27)
  have hxs := p.x.size
  have hxr := p.x.x0
  have KG := hide (fun (W1 : World) (b : Below w.heap.size w W1) => (p.below b).given)
  have KR := hide (fun (W1 : World) => refpseudo_any W1 X h p.x (by have := p.dm; omega))
  have KP := hide (fun (W1 : World) (g1 g2 : Nat) => pseudo_any W1 (ipL (givH h g1 g2)).toArray (givH h g1 g2) ⟨rfl, p.x.ls, p.x.ld⟩ (by show h.nd ≤ _; have := p.dm; omega))
  have hps : ∀ g1 g2, pseS (givH h g1 g2) = pseS h := fun _ _ => rfl
  obtain ⟨N, hN⟩ : ∃ N, N = pseS h := ⟨_, rfl⟩
  simp only [hps] at KP
  rw [← hN] at KP KR
  have HB := hide hb
  have HZ := hide hz
  have H1 := hide h1
  clear hps hN hz hb p
  go_enter Try.func4, Try.ntmps4
  go_wp2_with fail
  go_region_held3 (fun w' => w'.heap[w.heap.size]? = some (.cells X 27 (0, 0)))
    (first
      | exact H1.out
      | exact r4
      | exact r5
      | exact r6
      | exact r7
      | fail)
    (first
      | (go_at_call 7; (with_reducible refine (KG.out W.drew HB.out.drew).mono ?_); rintro e w4 ⟨g1, g2, rfl, -, -, -, -, b4⟩; have B4 : Hid (Below W.heap.size W w4) := hide (below_undrew' b4); have r4 := (B4.out.block w.heap.size (by have := HZ.out; omega)).trans H1.out; clear b4)
      | (go_at_call 17; (with_reducible refine (KP.out w4 g1 g2).mono ?_); rintro e w5 ⟨rfl, b5⟩; have B5 : Hid (Below W.heap.size W w5) := hide (B4.out.trans (b5.mono B4.out.size)); have r5 := (B5.out.block w.heap.size (by have := HZ.out; omega)).trans H1.out; clear b5)
      | (go_at_call 18; (with_reducible refine (KR.out w5).mono ?_); rintro e w6 ⟨rfl, b6⟩; have B6 : Hid (Below W.heap.size W w6) := hide (B5.out.trans (b6.mono B5.out.size)); have r6 := (B6.out.block w.heap.size (by have := HZ.out; omega)).trans H1.out; clear b6)
      | (go_at_call 14; (with_reducible refine (knownI_any w6).mono ?_); rintro e w7 ⟨rfl, b7⟩; have B7 : Hid (Below W.heap.size W w7) := hide (B6.out.trans (b7.mono B6.out.size)); have r7 := (B7.out.block w.heap.size (by have := HZ.out; omega)).trans H1.out; clear b7)
      | fail)
  all_goals (
    go_wp2
    go_ret
    exact ⟨rfl, HB.out.trans (B7.out.mono HB.out.size)⟩)
end Go.Proofs.Ytnhcfmmmghghgaa
