/-
  News put into a queue.
-/
import Derived.Test.YtajpibopknpmmaaGj
namespace Go.Proofs.Ytajpibopknpmmaa
open Go.RowKit
set_option maxRecDepth 100000
set_option linter.unusedVariables false
set_option linter.unusedSimpArgs false
attribute [local go_sem ↓] exec_span exec_put exec_build heap_alloc_new heap_old
attribute [local go_sem] spanQ_ptr spanC_some heap_of_drew heap_of_drewN putAt_ptr putOk_ptr oldOk_some World.setRow_alloc_new rs_wait rs_queue rs_Queue field0_wait field1_wait

/-- there is no room for one more. -/
def fullQ (most : Int) (L : List (Int × Nw)) (k : Int) : Bool := !(hasQ L k) && decide (most ≤ (L.length : Int))
/-- what Put answers, and what waits then. -/
def putE (most : Int) (L : List (Int × Nw)) (k : Int) (d : List UInt8) (t : Int) : Int := if t < 1 ∨ t > 1000 ∨ d.length = 0 then 1 else if fullQ most L k then 4 else 0
def putL (most : Int) (L : List (Int × Nw)) (k : Int) (d : List UInt8) (t : Int) : List (Int × Nw) := if putE most L k d t = 0 then putQ k (d, t.toNat) L else L
/-- the blocks that may hold what waits, behind a Put. -/
def moreS (S : Nat → Prop) (a b : Nat) (g : Nat) : Prop := S g ∨ (a ≤ g ∧ g < b)
theorem built_wait (A : Option Addr) (n c : Nat) (t : Int) : Try.prog.built 73 [(0, .slice A n c), (1, .int .i64 t)] = some #[.slice A n c, .int .i64 t] := by kernel_rfl
attribute [local go_sem] built_wait
theorem drew_of {B : Nat} {w w' : World} (h : Below B w w') : Below B w w'.drew := ⟨h.os, h.tape, h.output, h.size, h.block⟩
def PutqP (w : World) (q mb : Nat) (most : Int) (L : List (Int × Nw)) (S : Nat → Prop) (k : Int) (d : List UInt8) (t : Int) (e : Ending) (w' : World) : Prop :=
  e = .returned (.bool (!fullQ most L k)) ∧ QueS w' q mb most (if fullQ most L k then L else putQ k (d, t.toNat) L) (moreS S w.heap.size w'.heap.size) ∧ w.grownBy w' (some mb)
set_option maxHeartbeats 8000000 in
theorem putq_any (w : World) (q mb : Nat) (most : Int) (L : List (Int × Nw)) (S : Nat → Prop) (k : Int) (d : List UInt8) (ad : Addr) (c : Nat) (t : Int) (h : QueS w q mb most L S) (hS : ∀ g, S g → g < w.heap.size ∧ g ≠ mb) (hk : -9223372036854775808 ≤ k ∧ k ≤ 9223372036854775807) (ht : 1 ≤ t ∧ t ≤ 1000)
    (hd : Byt w w.heap.size (some ad) d) (hd0 : 0 < d.length) (hdl : d.length ≤ 140737488355328) :
    Calls Try.prog 27 #[.pointer (some ⟨q, 0, none⟩), .int .i64 k, .slice (some ad) d.length c, .int .i64 t] w (PutqP w q mb most L S k d t) := by
  obtain ⟨c0, c1⟩ := h.cells
  obtain ⟨A1, cA, hlook, -⟩ := que_look h k
  have hl' := hlook true
  have hlen := fun ty => que_len h ty
  have HQ := hide h
  have HS := hide hS
  have HK := hide hk
  have HT := hide ht
  have HD := hide hd
  have HD0 := hide hd0
  have HDL := hide hdl
  have KC := hide (fun w' (hb : Below w.heap.size w w') => cloneB_any w' ad c d ((hd.below hb).more hb.size) hdl)
  obtain ⟨n, hn⟩ : ∃ n, n = d.length := ⟨_, rfl⟩
  rw [← hn] at KC ⊢
  have HN := hide hn
  obtain ⟨m, hm⟩ : ∃ m, m = (dataQ L k).length := ⟨_, rfl⟩
  obtain ⟨lf, hlf⟩ : ∃ x, x = (leftQ L k : Int) := ⟨_, rfl⟩
  obtain ⟨hq, hhq⟩ : ∃ x, x = hasQ L k := ⟨_, rfl⟩
  obtain ⟨ln, hln⟩ : ∃ x, x = (L.length : Int) := ⟨_, rfl⟩
  rw [← hm, ← hlf, ← hhq] at hl'
  simp only [← hln] at hlen
  have HF1 : Hid ((!hq && decide (most ≤ ln)) = true → ∀ w', Below w.heap.size w w' → PutqP w q mb most L S k d t (.returned (.bool false)) w') := hide (fun e w' hb => by
    have e2 : fullQ most L k = true := by unfold fullQ; rw [← hhq, ← hln]; exact e
    unfold PutqP
    rw [e2, if_pos rfl]
    exact ⟨rfl, HQ.out.keep (fun i _ hi => hb.block i hi) hb.size (fun g hg => .inl hg), grown_ofB hb _⟩)
  have HF2 : Hid ((!hq && decide (most ≤ ln)) = false → ∀ w', QueS w' q mb most (putQ k (d, t.toNat) L) (moreS S w.heap.size w'.heap.size) → w.grownBy w' (some mb) → PutqP w q mb most L S k d t (.returned (.bool true)) w') := hide (fun e w' hq hg => by
    have e2 : fullQ most L k = false := by unfold fullQ; rw [← hhq, ← hln]; exact e
    unfold PutqP
    rw [e2, if_neg (by simp)]
    exact ⟨rfl, hq, hg⟩)
  have HHQ := hide hhq
  have HLN := hide hln
  clear h hS hk ht hd hd0 hdl hlook hn hm hlf hhq hln
  go_enter Try.func27, Try.ntmps27
  go_upto_region 2 with (fail)
  change Code.wp _ _ _ _ (w.alloc (.cells #[.slice A1 m cA, .int .i64 lf] 73))
  obtain ⟨w1, hw1, r1, z1, b1⟩ := alloc_nm w (.cells #[.slice A1 m cA, .int .i64 lf] 73)
  rw [hw1]
  have HB1 := hide b1
  have HQ1 := hide (HQ.out.below b1 (Nat.le_refl _))
  obtain ⟨d0, d1⟩ := HQ1.out.cells
  have hlen1 := fun ty => que_len HQ1.out ty
  rw [← HLN.out] at hlen1
  clear hw1 r1 z1 b1 c0 c1 hl' hlen
  have R0 : ∀ p : BW w1, p.w.cell? ⟨q, 0, none⟩ = some (.int .i64 most) := fun p => p.cell d0
  have R1 : ∀ p : BW w1, p.w.cell? ⟨q, 1, none⟩ = some (.map (some mb)) := fun p => p.cell d1
  have RL : ∀ (p : BW w1) ty, (Builtin.len_ #[57] ty #[.map (some mb)]).run Try.prog p.w = .ok (.int .i64 ln) p.w := fun p ty => by rw [que_len (HQ1.out.bw p) ty, HLN.out]
  cases hq
  · obtain ⟨b, hb⟩ : ∃ b, b = decide (most ≤ ln) := ⟨_, rfl⟩
    have hb' : decide (ln ≥ most) = b := hb.symm
    have HB := hide hb
    rw [← hb] at HF1 HF2
    clear hb
    refine wp_region_below w1 (Below.refl _ _) (by kernel_rfl) (by kernel_rfl) ?_
    repeat (go_big_quiet_step (fail))
    refine wpQuiet_nil ?_
    intro _ hw'
    obtain ⟨pq, hw''⟩ := hw'
    subst hw''
    obtain ⟨W3, hW3⟩ : ∃ W, W = pq.w := ⟨_, rfl⟩
    have B3 := hide (HB1.out.trans (pq.below.mono HB1.out.size))
    have Q3 := hide (HQ1.out.bw pq)
    rw [← hW3] at B3 Q3 ⊢
    clear hW3 R0 R1 RL d0 d1 hlen1 pq
    cases b
    · obtain ⟨-, d1⟩ := Q3.out.cells
      have d1' : W3.drew.cell? ⟨q, 1, none⟩ = some (.map (some mb)) := d1
      go_upto_region 4 with (fail)
      go_region_law (first
        | (go_simp; go_at_call 31; (with_reducible refine (KC.out _ (drew_of B3.out)).mono ?_); rintro e w5 ⟨v5, rfl, o5, b5⟩
           have B5 := hide ((drew_of B3.out).trans (b5.mono B3.out.size))
           have Q5 := hide (Q3.out.drew.below b5 (Nat.le_refl _))
           have d5 := Q5.out.cells.2
           obtain ⟨g5, c5, ev, hle5, hg5, hlt5⟩ := o5.pos HD0.out
           have hnt : NtS w5 (moreS S w.heap.size w5.heap.size) (.agg #[.slice (some ⟨g5, 0, none⟩) n c5, .int .i64 t]) (d, t.toNat) := by
             subst ev
             refine ⟨g5, c5, by dsimp only; rw [HN.out, Int.toNat_of_nonneg (by have := HT.out; omega)], .inr ⟨Nat.le_trans B3.out.size hg5, hlt5⟩, hlt5, hle5, o5.byt hlt5⟩
           obtain ⟨o, hst, hq5⟩ := que_store (Q5.out.keep (fun _ _ _ => rfl) (Nat.le_refl _) (fun g hg => Or.inl hg)) (S := moreS S w.heap.size w5.heap.size) (fun hm => by
             rcases hm with hm | hm
             · exact (HS.out mb hm).2 rfl
             · have := HQ.out.lt.2; omega) k _ (d, t.toNat) hnt ⟨HK.out, HD0.out, HDL.out, by have := HT.out; dsimp only; omega, by have := HT.out; dsimp only; omega⟩
           have H5 : Hid (QueS (w5.putObj mb o) q mb most (putQ k (d, t.toNat) L) (moreS S w.heap.size (w5.putObj mb o).heap.size) ∧ w.grownBy (w5.putObj mb o) (some mb)) := hide ⟨by
             have : (w5.putObj mb o).heap.size = w5.heap.size := by simp
             rw [this]; exact hq5, World.grownBy.trans (grown_ofB B5.out (some mb)) (grown_putObj _ mb o)⟩
           have ev' : v5 = .slice (some ⟨g5, 0, none⟩) n c5 := by rw [HN.out]; exact ev
           subst ev'
           clear ev b5 o5 hq5 hnt hle5 hg5 hlt5)
        | fail)
      all_goals (
        go_wp2
        go_ret
        exact HF2.out (by first | rfl | trivial) _ H5.out.1 H5.out.2)
    · go_wp2
      go_ret
      exact HF1.out (by first | rfl | trivial) _ B3.out
  · refine wp_region_below w1 (Below.refl _ _) (by kernel_rfl) (by kernel_rfl) ?_
    repeat (go_big_quiet_step (fail))
    refine wpQuiet_nil ?_
    intro _ hw'
    obtain ⟨pq, hw''⟩ := hw'
    subst hw''
    obtain ⟨W3, hW3⟩ : ∃ W, W = pq.w := ⟨_, rfl⟩
    have B3 := hide (HB1.out.trans (pq.below.mono HB1.out.size))
    have Q3 := hide (HQ1.out.bw pq)
    rw [← hW3] at B3 Q3 ⊢
    clear hW3 R0 R1 RL d0 d1 hlen1 pq
    obtain ⟨-, d1⟩ := Q3.out.cells
    have d1' : W3.drew.cell? ⟨q, 1, none⟩ = some (.map (some mb)) := d1
    go_upto_region 4 with (fail)
    go_region_law (first
      | (go_simp; go_at_call 31; (with_reducible refine (KC.out _ (drew_of B3.out)).mono ?_); rintro e w5 ⟨v5, rfl, o5, b5⟩
         have B5 := hide ((drew_of B3.out).trans (b5.mono B3.out.size))
         have Q5 := hide (Q3.out.drew.below b5 (Nat.le_refl _))
         have d5 := Q5.out.cells.2
         obtain ⟨g5, c5, ev, hle5, hg5, hlt5⟩ := o5.pos HD0.out
         have hnt : NtS w5 (moreS S w.heap.size w5.heap.size) (.agg #[.slice (some ⟨g5, 0, none⟩) n c5, .int .i64 t]) (d, t.toNat) := by
           subst ev
           refine ⟨g5, c5, by dsimp only; rw [HN.out, Int.toNat_of_nonneg (by have := HT.out; omega)], .inr ⟨Nat.le_trans B3.out.size hg5, hlt5⟩, hlt5, hle5, o5.byt hlt5⟩
         obtain ⟨o, hst, hq5⟩ := que_store (Q5.out.keep (fun _ _ _ => rfl) (Nat.le_refl _) (fun g hg => Or.inl hg)) (S := moreS S w.heap.size w5.heap.size) (fun hm => by
           rcases hm with hm | hm
           · exact (HS.out mb hm).2 rfl
           · have := HQ.out.lt.2; omega) k _ (d, t.toNat) hnt ⟨HK.out, HD0.out, HDL.out, by have := HT.out; dsimp only; omega, by have := HT.out; dsimp only; omega⟩
         have H5 : Hid (QueS (w5.putObj mb o) q mb most (putQ k (d, t.toNat) L) (moreS S w.heap.size (w5.putObj mb o).heap.size) ∧ w.grownBy (w5.putObj mb o) (some mb)) := hide ⟨by
           have : (w5.putObj mb o).heap.size = w5.heap.size := by simp
           rw [this]; exact hq5, World.grownBy.trans (grown_ofB B5.out (some mb)) (grown_putObj _ mb o)⟩
         have ev' : v5 = .slice (some ⟨g5, 0, none⟩) n c5 := by rw [HN.out]; exact ev
         subst ev'
         clear ev b5 o5 hq5 hnt hle5 hg5 hlt5)
      | fail)
    all_goals (
      go_wp2
      go_ret
      exact HF2.out (by first | rfl | trivial) _ H5.out.1 H5.out.2)
end Go.Proofs.Ytajpibopknpmmaa
