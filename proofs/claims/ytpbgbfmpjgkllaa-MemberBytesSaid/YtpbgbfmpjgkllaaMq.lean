/-
  The walk of the statement MemberBytes.
-/
import Derived.Test.YtpbgbfmpjgkllaaMz
import Derived.Test.YtpbgbfmpjgkllaaLent
namespace Go.Proofs.Ytpbgbfmpjgkllaa
open Go.RowKit
set_option maxRecDepth 100000
set_option linter.unusedVariables false
set_option linter.unusedSimpArgs false
attribute [local go_sem ↓] exec_span exec_put exec_build heap_alloc_new heap_old
attribute [local go_sem] spanQ_ptr spanC_some heap_of_drew heap_of_drewN putAt_ptr putOk_ptr oldOk_some World.setRow_alloc_new rs_inf rs_view rs_rinf

theorem neq_rinf_self (w : World) (s i : Int) : (binOp .neq 23 (.agg #[.int .i64 s, .int .i64 i]) (.agg #[.int .i64 s, .int .i64 i])).run Try.prog w = .ok (.bool false) w := by
  rw [neq_rinf]; simp
theorem length_resL (l : List UInt8) : (resL l).length < 256 := by
  unfold resL
  split
  · decide
  · split
    · rw [runR_len]; exact cntR_lt l
    · decide
set_option maxHeartbeats 8000000 in
theorem memberBytes_any (w : World) (A : Option Addr) (c : Nat) (l : List UInt8) (hc : l.length ≤ c) (hn : l.length ≤ 140737488355320) (hb : Byt w w.heap.size A l) (hnil : A = none → c = 0) :
    Calls Try.prog 6 #[.slice A l.length c] w (fun e w' => e = .returned (.bool true) ∧ Below w.heap.size w w') := by
  have C1 := hide (lent_any A c l w.heap.size w hc hn hb (Nat.le_refl _))
  have HB := hide hb
  have HLN := hide hn
  have HLC := hide hc
  have HNIL := hide hnil
  have KK := hide (fun W => knownM_any W)
  clear hb hn hc hnil
  go_enter Try.func6, Try.ntmps6
  go_wp2_with fail
  refine C1.out.mono ?_
  rintro e w1 ⟨rfl, hl1, hb1⟩
  have HB1 := hide hb1
  have HL1 := hide hl1
  have C2 := hide (readM_any w1 (some ⟨w.heap.size, 0, none⟩) (l.length + 8) l (by omega) (by have := HLN.out; omega) (hl1.byt hl1.lt))
  clear C1 hl1 hb1
  dsimp only
  go_wp2_with fail
  refine C2.out.mono ?_
  rintro e w2 ⟨Ax, cx, T, hT, rfl, hcx, hvx, hb2⟩
  have HTX := hide hT
  have HVX := hide hvx
  have HB2 := hide (HB1.out.trans (hb2.mono HB1.out.size))
  have HL2 := hide (HL1.out.below hb2 HL1.out.lt)
  have C3 := hide (readD_any w2 A c l HLC.out (by have := HLN.out; omega) ((HB.out.below HB2.out).more HB2.out.size) HNIL.out)
  clear C2 hb2 hvx HL1 hT
  dsimp only
  go_wp2_with fail
  refine C3.out.mono ?_
  rintro e w3 ⟨Ay, cy, T', hT', rfl, hcy, hvy, hb3⟩
  have HVY := hide hvy
  have HVX3 := hide ((HVX.out.below hb3 (Nat.le_refl _)).more hb3.size)
  have HB3 := hide (HB2.out.trans (hb3.mono HB2.out.size))
  have HL3 := hide (HL2.out.below hb3 (Nat.lt_of_lt_of_le HL2.out.lt (Nat.le_refl _)))
  obtain rfl : T' = T := by rw [hT', HTX.out]
  have C4 := hide (kept_any A c w.heap.size l w.heap.size w3 HLC.out HLN.out (HB.out.below HB3.out) HL3.out)
  have hT256 : T' < 256 := by rw [HTX.out]; exact length_resL l
  have HT := HTX
  obtain ⟨L, hL⟩ : ∃ L, L = resL l := ⟨_, rfl⟩
  obtain ⟨E, hE⟩ : ∃ E, E = resE l := ⟨_, rfl⟩
  rw [← hL] at HVX3 HVY HT
  rw [← hE]
  clear C3 hb3 hvy HVX HL2 HTX hT' hL hE
  dsimp only
  go_wp2_with fail
  refine C4.out.mono ?_
  rintro e w4 ⟨rfl, rfl⟩
  clear C4
  dsimp only
  have hr0 : Hid (Below w3.heap.size w3 w3) := hide (Below.refl _ _)
  go_wp2
  go_loopw [8] (fun v wr => ∃ k : Nat, k ≤ T' ∧ v = .int .i64 (k : Int) ∧ Hid (Below w3.heap.size w3 wr)) (fun v _ => T' - (intOf v).toNat)
  case atStart => exact ⟨0, by omega, rfl, hr0⟩
  case round =>
    obtain ⟨k, hk, rfl, hbel⟩ := hrel
    by_cases hlt : k < T'
    · have hkl : k < L.length := by rw [← HT.out]; exact hlt
      obtain ⟨bx, ox, rfl, hbx, hcx'⟩ := HVX3.out (by omega)
      obtain ⟨by', oy, rfl, hby, hcy'⟩ := HVY.out (by omega)
      obtain ⟨g1, g2⟩ := hcx' k hkl
      obtain ⟨g3, g4⟩ := hcy' k hkl
      obtain ⟨y, hy⟩ : ∃ y, y = L[k] := ⟨_, rfl⟩
      rw [← hy] at g1 g2 g3 g4
      have KT := hide (fun W => taken14_any W y)
      obtain ⟨ys, yc⟩ := y
      unfold infV infA at KT
      have i1 := fun p : BW wr => p.cell ((hbel.out.cell (show (⟨bx, ox + k * 2, none⟩ : Addr).block < w3.heap.size from hbx)).trans g1)
      have i2 := fun p : BW wr => p.cell ((hbel.out.cell (show (⟨bx, ox + k * 2 + 1, none⟩ : Addr).block < w3.heap.size from hbx)).trans g2)
      have i3 := fun p : BW wr => p.cell ((hbel.out.cell (show (⟨by', oy + k * 2, none⟩ : Addr).block < w3.heap.size from hby)).trans g3)
      have i4 := fun p : BW wr => p.cell ((hbel.out.cell (show (⟨by', oy + k * 2 + 1, none⟩ : Addr).block < w3.heap.size from hby)).trans g4)
      have hneq := fun W => neq_rinf_self W ys yc
      have hji : (k : Int) < (T' : Int) := by omega
      have hbs := hide hbel.out.size
      clear hy g1 g2 g3 g4 hkl hcx' hcy'
      go_upto_region 9 with (fail)
      first | refine wp_region_belowS wr (Below.refl _ _) ?_ | refine wp_region_below wr (Below.refl _ _) (by kernel_rfl) (by kernel_rfl) ?_
      repeat
        first
        | (go_big_quiet_step (first
        | ((go_at_call 22; with_reducible exact Calls.bel (KT.out _)))
        | fail))
        | (go_big_quiet_want; apply quiet_span; (intro p; go_simp; rfl); (try simp only [Act.put, List.setIfInBounds_toArray, List.set_cons_zero, List.set_cons_succ]); go_big_quiet_on)
      refine wpQuiet_nil ?_
      intro _ hw'
      obtain ⟨pq, hw''⟩ := hw'
      subst hw''
      have B2 := hide (hbel.out.trans (pq.below.mono hbs.out))
      clear i1 i2 i3 i4
      go_wp2
      go_roundw
      case rel => exact ⟨k + 1, by omega, by go_num, B2⟩
      case measure => simp [intOf]; omega
    · obtain rfl : k = T' := by omega
      go_wp2_with fail
      refine (KK.out _).mono ?_
      rintro e w5 ⟨rfl, b5⟩
      have B5 := hide (HB3.out.trans ((hbel.out.trans (b5.mono hbel.out.size)).mono HB3.out.size))
      clear b5
      dsimp only
      go_wp2
      go_ret
      exact ⟨rfl, B5.out⟩
end Go.Proofs.Ytpbgbfmpjgkllaa
