/-
  Places: which one, both of them; what is passed in one; what is first in one.
-/
import Derived.Test.YtjdedlmphghpnaaWho
namespace Go.Proofs.Ytjdedlmphghpnaa
open Go.RowKit
set_option maxRecDepth 100000
set_option linter.unusedVariables false
set_option linter.unusedSimpArgs false
attribute [local go_sem ↓] exec_span exec_put exec_build heap_alloc_new heap_old
attribute [local go_sem] spanQ_ptr spanC_some heap_of_drew heap_of_drewN putAt_ptr putOk_ptr oldOk_some World.setRow_alloc_new rs_Due

def plS (p : Nat) : Value := .iface 75 (.pointer (some ⟨p, 2, none⟩))
def plL (p : Nat) : Value := .iface 76 (.pointer (some ⟨p, 66, none⟩))
set_option maxHeartbeats 2000000 in
theorem placeS_any (w : World) (p : Nat) (now at_ : Int) (hc : w.cell? ⟨p, 0, none⟩ = some (.int .i64 now)) (hn : 0 ≤ now ∧ now ≤ 1099511627776) (ha : 0 ≤ at_ ∧ at_ ≤ 1099511627776) (h : at_ - now ≤ 64) :
    Calls Try.prog 26 #[.pointer (some ⟨p, 0, none⟩), .int .i64 at_] w fun e w' => e = .returned (plS p) ∧ w = w' := by
  unfold plS
  go_enter Try.func26, Try.ntmps26
  go_wp2
  go_ret
  exact ⟨rfl, rfl⟩
set_option maxHeartbeats 2000000 in
theorem placeL_any (w : World) (p : Nat) (now at_ : Int) (hc : w.cell? ⟨p, 0, none⟩ = some (.int .i64 now)) (hn : 0 ≤ now ∧ now ≤ 1099511627776) (ha : 0 ≤ at_ ∧ at_ ≤ 1099511627776) (h : ¬ at_ - now ≤ 64) :
    Calls Try.prog 26 #[.pointer (some ⟨p, 0, none⟩), .int .i64 at_] w fun e w' => e = .returned (plL p) ∧ w = w' := by
  unfold plL
  go_enter Try.func26, Try.ntmps26
  go_wp2
  go_ret
  exact ⟨rfl, rfl⟩
theorem rs_places : rowSize Try.prog 70 = some 2 := by kernel_rfl
theorem info_places : (Try.prog.info? 70).map (·.size) = some 2 := by kernel_rfl
theorem built_places (p : Nat) : Try.prog.built 70 [(0, .iface 75 (.pointer (some ⟨p, 2, none⟩))), (1, .iface 76 (.pointer (some ⟨p, 66, none⟩)))] = some #[.iface 75 (.pointer (some ⟨p, 2, none⟩)), .iface 76 (.pointer (some ⟨p, 66, none⟩))] := by kernel_rfl
attribute [local go_sem] rs_places built_places
set_option maxHeartbeats 2000000 in
theorem places_any (w : World) (p : Nat) (hp : p < w.heap.size) :
    Calls Try.prog 27 #[.pointer (some ⟨p, 0, none⟩)] w fun e w' => e = .returned (.agg #[plS p, plL p]) ∧ Below w.heap.size w w' := by
  unfold plS plL
  obtain ⟨w1, hw1, r1, z1, b1⟩ := alloc_nm w (.cells #[.nilIface, .nilIface] 70)
  have hao : allOne #[.iface 75 (.pointer (some ⟨p, 2, none⟩)), .iface 76 (.pointer (some ⟨p, 66, none⟩))] = true := by simp [allOne, Value.oneCell']
  have HB : Hid (∀ cs, Below w.heap.size w (w1.drew.setRow w.heap.size cs)) := hide fun cs => below_setRow (w := w1.drew) ⟨b1.os, b1.tape, b1.output, b1.size, b1.block⟩ (Nat.le_refl _) cs
  have HR : Hid (∀ cs, (w1.drew.setRow w.heap.size cs).heap[w.heap.size]? = some (.cells cs 70 (0, 0))) := hide fun cs => setRow_heap w1.drew _ _ _ _ _ r1
  clear b1 z1 hp
  go_enter Try.func27, Try.ntmps27
  go_upto_region 1 with (fail)
  go_region_law (fail)
  go_wp2
  refine bodyPost_ret (results_cell_row (fn := Try.f27) Try.results27 _ _ w.heap.size 70 #[.iface 75 (.pointer (some ⟨p, 2, none⟩)), .iface 76 (.pointer (some ⟨p, 66, none⟩))] (0, 0) _ rfl (HR.out _) Try.underlying70 rfl info_places) rfl ?_
  exact ⟨rfl, HB.out _⟩
end Go.Proofs.Ytjdedlmphghpnaa
