/-
  The walk of the statement HashFlow.
-/
import Derived.Test.YtlcgciafclfoeaaHl
import Derived.Test.YtlcgciafclfoeaaPut
import Derived.Test.YtlcgciafclfoeaaPutR
namespace Go.Proofs.Ytlcgciafclfoeaa
open Go.RowKit
attribute [local go_sem ↓] exec_span exec_put exec_build heap_alloc_new heap_old
attribute [local go_sem] spanQ_ptr spanC_some heap_of_drew heap_of_drewN rs_arr rs_ad rs_tup putAt_ptr putOk_ptr oldOk_some built_none World.setRow_alloc_new
set_option maxRecDepth 100000
set_option linter.unusedVariables false
set_option linter.unusedSimpArgs false

/-- the number of a tuple. -/
def flowB (t : Tup) : BitVec 64 := if rightT t then sipB 1#64 2#64 (putB t) else 0#64

theorem putE_yes {t : Tup} (h : rightT t = true) : putE t = 0 := by unfold putE; rw [if_pos h]
theorem putE_no {t : Tup} (h : rightT t = false) : putE t = 1 := by unfold putE; rw [if_neg (by rw [h]; decide)]

set_option maxHeartbeats 4000000 in
theorem flow_any (w : World) (X : Array Value) (t : Tup) (h : TuV X t) :
    Calls Try.prog 17 #[.agg X] w fun e w' => e = .returned (.tuple #[.int .u64 ((flowB t).toNat : Int), .int .i64 (putE t)]) ∧ Below w.heap.size w w' := by
  go_enter Try.func17, Try.ntmps17
  have hxs := h.size
  have hxr := h.x0
  obtain ⟨W, hW, h1, hz, hb⟩ := one_block w (.cells X 36)
  have hpt := hide (puttuple_any W X t h)
  have hB := hide hb
  have hlt : Hid (W.heap.size = w.heap.size + 1) := hide hz
  clear hz hb
  cases hR : rightT t
  · have HE := hide (putE_no hR)
    have HF : Hid (flowB t = 0#64) := hide (by unfold flowB; rw [if_neg (by rw [hR]; decide)])
    clear hR
    go_wp2_with fail
    refine hpt.out.mono ?_
    rintro e w2 ⟨⟨A, c, rfl, -⟩, hb2⟩
    rw [HE.out]
    have HB2 := hide (hB.out.trans (hb2.mono (by have := hlt.out; omega)))
    clear hb2 hpt
    go_wp2
    go_ret2
    exact ⟨by rw [HF.out, HE.out]; rfl, HB2.out⟩
  · have HE := hide (putE_yes hR)
    have HF : Hid (flowB t = sipB 1#64 2#64 (putB t)) := hide (by unfold flowB; rw [if_pos hR])
    have hl13 : (putB t).length ≤ 140737488355328 := by
      unfold putB; rw [if_pos hR, length_tupB h.ls h.ld]; omega
    clear hR
    go_wp2_with fail
    refine hpt.out.mono ?_
    rintro e w2 ⟨⟨A, c, rfl, hby, hlc, hnil⟩, hb2⟩
    rw [HE.out]
    have HC := hide (sip_any 1#64 2#64 A c (putB t) w2.heap.size w2 hlc hl13 hby (Nat.le_refl _))
    have HB2 := hide (hB.out.trans (hb2.mono (by have := hlt.out; omega)))
    generalize (putB t).length = n at HC ⊢
    clear hb2 hpt hby hlc hnil hl13
    go_wp2_with fail
    refine HC.out.mono ?_
    rintro e w3 ⟨rfl, hb3⟩
    have HB3 := hide (HB2.out.trans (hb3.mono HB2.out.size))
    unfold uV
    rw [← HF.out]
    clear hb3 HC
    go_wp2
    go_ret2
    exact ⟨by rw [HE.out]; rfl, HB3.out⟩
set_option maxHeartbeats 4000000 in
theorem refflow_any (w : World) (X : Array Value) (t : Tup) (h : TuV X t) :
    Calls Try.prog 18 #[.agg X] w fun e w' => e = .returned (.tuple #[.int .u64 ((flowB t).toNat : Int), .int .i64 (putE t)]) ∧ Below w.heap.size w w' := by
  go_enter Try.func18, Try.ntmps18
  have hxs := h.size
  have hxr := h.x0
  obtain ⟨W, hW, h1, hz, hb⟩ := one_block w (.cells X 36)
  have hpt := hide (refputtuple_any W X t h)
  have hB := hide hb
  have hlt : Hid (W.heap.size = w.heap.size + 1) := hide hz
  clear hz hb
  cases hR : rightT t
  · have HE := hide (putE_no hR)
    have HF : Hid (flowB t = 0#64) := hide (by unfold flowB; rw [if_neg (by rw [hR]; decide)])
    clear hR
    go_wp2_with fail
    refine hpt.out.mono ?_
    rintro e w2 ⟨⟨A, c, rfl, -⟩, hb2⟩
    rw [HE.out]
    have HB2 := hide (hB.out.trans (hb2.mono (by have := hlt.out; omega)))
    clear hb2 hpt
    go_wp2
    go_ret2
    exact ⟨by rw [HF.out, HE.out]; rfl, HB2.out⟩
  · have HE := hide (putE_yes hR)
    have HF : Hid (flowB t = sipB 1#64 2#64 (putB t)) := hide (by unfold flowB; rw [if_pos hR])
    have hl13 : (putB t).length ≤ 140737488355328 := by
      unfold putB; rw [if_pos hR, length_tupB h.ls h.ld]; omega
    clear hR
    go_wp2_with fail
    refine hpt.out.mono ?_
    rintro e w2 ⟨⟨A, c, rfl, hby, hlc, hnil⟩, hb2⟩
    rw [HE.out]
    have HC := hide (refsip_any 1#64 2#64 A c (putB t) w2.heap.size w2 hl13 hby (Nat.le_refl _))
    have HB2 := hide (hB.out.trans (hb2.mono (by have := hlt.out; omega)))
    generalize (putB t).length = n at HC ⊢
    clear hb2 hpt hby hlc hnil hl13
    go_wp2_with fail
    refine HC.out.mono ?_
    rintro e w3 ⟨rfl, hb3⟩
    have HB3 := hide (HB2.out.trans (hb3.mono HB2.out.size))
    unfold uV
    rw [← HF.out]
    clear hb3 HC
    go_wp2
    go_ret2
    exact ⟨by rw [HE.out]; rfl, HB3.out⟩

set_option maxHeartbeats 4000000 in
theorem hashFlow_any (w : World) (X : Array Value) (t : Tup) (n : BitVec 64) (h : TuV X t) :
    Calls Try.prog 6 #[.agg X, .int .u64 (n.toNat : Int)] w fun e w' => e = .returned (.bool true) ∧ Below w.heap.size w w' := by
  go_enter Try.func6, Try.ntmps6
  have hxs := h.size
  have hxr := h.x0
  obtain ⟨W, hW, h1, hz, hb⟩ := one_block w (.cells X 36)
  have hf := hide (flow_any W X t h)
  have hg := hide (fun W => refflow_any W X t h)
  have hp' := port_any n
  have hq' := refport_any n
  have hm : n.toNat % 16384 < 16384 := Nat.mod_lt _ (by omega)
  have hp1 : (49152 : Int) ≤ ((49152 + n.toNat % 16384 : Nat) : Int) := by omega
  have hp2 : ((49152 + n.toNat % 16384 : Nat) : Int) ≤ 65535 := by omega
  generalize (49152 + n.toNat % 16384 : Nat) = P at hp1 hp2 hp' hq'
  have hp := hide hp'
  have hq := hide hq'
  clear hp' hq' hm
  have hB := hide hb
  have hlt : Hid (W.heap.size = w.heap.size + 1) := hide hz
  clear hz hb
  go_wp2_with fail
  refine hf.out.mono ?_
  rintro e w2 ⟨rfl, hb2⟩
  have h12 := row_kept hb2 (by have := hlt.out; omega) h1
  have HB2 := hide (hB.out.trans (hb2.mono (by have := hlt.out; omega)))
  generalize (flowB t).toNat = F at hg ⊢
  generalize putE t = E at hg ⊢
  clear hb2 hf
  go_wp2_with fail
  refine (hg.out _).mono ?_
  rintro e w3 ⟨rfl, hb3⟩
  have HB3 := hide (HB2.out.trans (hb3.mono HB2.out.size))
  clear hb3
  go_wp2_with fail
  refine (hp.out _).mono ?_
  rintro e w4 ⟨rfl, rfl⟩
  go_wp2_with fail
  refine (hq.out _).mono ?_
  rintro e w4 ⟨rfl, rfl⟩
  go_wp2_with fail
  refine (knownH_any _).mono ?_
  rintro e w5 ⟨rfl, hb5⟩
  have HB5 := hide (HB3.out.trans (hb5.mono HB3.out.size))
  clear hb5
  go_wp2
  go_ret
  exact ⟨rfl, HB5.out⟩
theorem hashFlow_at (w : World) (X : Array Value) (t : Tup) (n : Nat) (hn : n ≤ 18446744073709551615) (h : TuV X t) :
    Calls Try.prog 6 #[.agg X, .int .u64 (n : Int)] w fun e w' => e = .returned (.bool true) ∧ Below w.heap.size w w' := by
  have h := hashFlow_any w X t (BitVec.ofNat 64 n) h
  rwa [BitVec.toNat_ofNat, Nat.mod_eq_of_lt (show n < 2 ^ 64 by omega)] at h
end Go.Proofs.Ytlcgciafclfoeaa
