/-
  A queue's calls: Pick, Put, Left, Len; a new one.
-/
import Derived.Test.YtajpibopknpmmaaGi
namespace Go.Proofs.Ytajpibopknpmmaa
open Go.RowKit
set_option maxRecDepth 100000
set_option linter.unusedVariables false
set_option linter.unusedSimpArgs false
attribute [local go_sem ↓] exec_span exec_put exec_build heap_alloc_new heap_old
attribute [local go_sem] spanQ_ptr spanC_some heap_of_drew heap_of_drewN putAt_ptr putOk_ptr oldOk_some World.setRow_alloc_new rs_wait rs_queue rs_Queue field0_wait field1_wait

theorem NewsC.low {w : World} {base base' : Nat} (hb : base' ≤ base) : ∀ {cs : List Value} {l : List (Int × List UInt8)}, NewsC w base cs l → NewsC w base' cs l
  | [], [], _ => trivial
  | a :: b :: s, p :: t, h => ⟨h.1, row_mono h.2.1 hb, NewsC.low hb h.2.2⟩
  | [], _ :: _, h => h.elim
  | [_], _, h => by unfold NewsC at h; exact h.elim
  | _ :: _ :: _, [], h => h.elim
theorem NewsR.low {w : World} {base base' : Nat} {v : Value} {l : List (Int × List UInt8)} (h : NewsR w base v l) (hb : base' ≤ base) : NewsR w base' v l := by
  obtain ⟨cs, h1, h2⟩ := h
  exact ⟨cs, row_mono h1 hb, h2.low hb⟩
/-- what is told within so much room, and what waits then. -/
def tellQ (L : List (Int × Nw)) (room : Int) : List (Int × List UInt8) × List (Int × Nw) := pickQ (ordQ L (L.map (·.1))) room L
set_option maxHeartbeats 2000000 in
theorem pickQ_any (w : World) (q mb : Nat) (most : Int) (L : List (Int × Nw)) (S : Nat → Prop) (room : Int) (h : QueS w q mb most L S) (hlen : L.length ≤ 4096) (hS : ∀ g, S g → g < w.heap.size ∧ g ≠ mb)
    (hroom : -9223372036854775808 ≤ room ∧ room ≤ 9223372036854775807) :
    Calls Try.prog 16 #[.pointer (some ⟨q, 0, none⟩), .int .i64 room] w fun e w' =>
      ∃ v, e = .returned v ∧ NewsR w' w.heap.size v (tellQ L room).1 ∧ QueS w' q mb most (tellQ L room).2 S ∧ w.grownBy w' (some mb) := by
  have hlt := h.lt
  obtain ⟨w1, hw1, r1, z1, b1⟩ := alloc_nm w (.cells #[.slice none 0 0] 37)
  have KP := pickq_any w1 q mb w.heap.size most L S room (h.below b1 (Nat.le_refl _)) hlen ⟨⟨by omega, by omega⟩, ⟨by omega, by omega⟩, by omega, fun g hg => ⟨by have := hS g hg; omega, by have := hS g hg; omega, (hS g hg).2⟩⟩ r1 hroom
  have HB1 := hide b1
  have HZ1 := hide z1
  clear h hS hlt r1 z1 b1 hroom hlen
  go_enter Try.func16, Try.ntmps16
  go_wp2_with fail
  refine KP.mono ?_
  rintro e w' ⟨rfl, ⟨v, hv, hn⟩, hq, h1, h2, h3, h4, h5⟩
  dsimp only
  have HV := hide hv
  have HN : Hid (NewsR w' w.heap.size v (tellQ L room).1) := hide (hn.low (by have := HZ1.out; omega))
  have HQ := hide hq
  have HG : Hid (w.grownBy w' (some mb)) := hide ⟨h1.trans HB1.out.os, h2.trans HB1.out.tape, h3.trans HB1.out.output, Nat.le_trans HB1.out.size h4, fun i hi hne => (h5 i (by have := HZ1.out; omega) (by omega) (fun e => hne (by rw [e]))).trans (HB1.out.block i hi)⟩
  have c0 : w'.cell? ⟨w.heap.size, 0, none⟩ = some v := (cell_of_row w' w.heap.size 0 _ _ (0, 0) hv).trans rfl
  clear hv hn hq h1 h2 h3 h4 h5 KP hw1
  go_wp2
  go_ret
  exact ⟨_, rfl, HN.out, HQ.out, HG.out⟩
set_option maxHeartbeats 1000000 in
theorem leftQ_any (w : World) (q mb : Nat) (most : Int) (L : List (Int × Nw)) (S : Nat → Prop) (k : Int) (h : QueS w q mb most L S) :
    Calls Try.prog 20 #[.pointer (some ⟨q, 0, none⟩), .int .i64 k] w fun e w' => e = .returned (.int .i64 (leftQ L k : Int)) ∧ w' = w := by
  have KL := leftq_any w q mb most L S k h
  clear h
  obtain ⟨m, hm⟩ : ∃ m, m = (leftQ L k : Int) := ⟨_, rfl⟩
  rw [← hm] at KL ⊢
  clear hm
  go_enter Try.func20, Try.ntmps20
  go_wp2_with (first | (go_at_call 33; refine KL.mono ?_; rintro e w' ⟨rfl, rfl⟩) | fail)
  go_ret
  exact ⟨rfl, rfl⟩
set_option maxHeartbeats 1000000 in
theorem lenQ_any (w : World) (q mb : Nat) (most : Int) (L : List (Int × Nw)) (S : Nat → Prop) (h : QueS w q mb most L S) :
    Calls Try.prog 22 #[.pointer (some ⟨q, 0, none⟩)] w fun e w' => e = .returned (.int .i64 (L.length : Int)) ∧ w' = w := by
  have hl := que_len h
  obtain ⟨-, c1⟩ := h.cells
  obtain ⟨n, hn⟩ : ∃ n, n = (L.length : Int) := ⟨_, rfl⟩
  rw [← hn] at hl ⊢
  clear hn h
  go_enter Try.func22, Try.ntmps22
  go_wp2
  go_ret
  exact ⟨rfl, rfl⟩
/-- a queue that is not there. -/
theorem leftN_any (w : World) (k : Int) : Calls Try.prog 20 #[.pointer none, .int .i64 k] w fun e w' => e = .returned (.int .i64 0) ∧ w' = w := by
  go_enter Try.func20, Try.ntmps20
  go_wp2
  go_ret
  exact ⟨rfl, rfl⟩
theorem lenN_any (w : World) : Calls Try.prog 22 #[.pointer none] w fun e w' => e = .returned (.int .i64 0) ∧ w' = w := by
  go_enter Try.func22, Try.ntmps22
  go_wp2
  go_ret
  exact ⟨rfl, rfl⟩
theorem pickN_any (w : World) (room : Int) : Calls Try.prog 16 #[.pointer none, .int .i64 room] w fun e w' => e = .returned (.slice none 0 0) ∧ w' = w := by
  go_enter Try.func16, Try.ntmps16
  go_wp2
  go_ret
  exact ⟨rfl, rfl⟩
theorem putN_any (w : World) (k : Int) (A : Option Addr) (n c : Nat) (t : Int) : Calls Try.prog 12 #[.pointer none, .int .i64 k, .slice A n c, .int .i64 t] w fun e w' => e = .returned (.int .i64 2) ∧ w' = w := by
  go_enter Try.func12, Try.ntmps12
  go_wp2
  go_ret
  exact ⟨rfl, rfl⟩
/-- a new queue. -/
theorem built_queue (m : Int) (b : Nat) : Try.prog.built 59 [(0, .int .i64 m), (1, .map (some b))] = some #[.int .i64 m, .map (some b)] := by kernel_rfl
theorem built_Queue (m : Int) (b : Nat) : Try.prog.built 62 [(0, .agg #[.int .i64 m, .map (some b)])] = some #[.int .i64 m, .map (some b)] := by kernel_rfl
theorem info_queue : (Try.prog.info? 59).map (·.size) = some 2 := by kernel_rfl
attribute [local go_sem] built_queue built_Queue
set_option maxHeartbeats 2000000 in
theorem emptyQ_any (w : World) (m : Int) : Calls Try.prog 26 #[.int .i64 m] w fun e w' => ∃ b, e = .returned (.agg #[.int .i64 m, .map (some b)]) ∧ MapS w' b [] ∧ Below w.heap.size w w' ∧ w.heap.size ≤ b := by
  have hao : allOne #[.int .i64 m, .map (some (w.heap.size + 1))] = true := by simp [allOne, Value.oneCell']
  have hmk := @run_makeMap Try.prog 57
  go_enter Try.func26, Try.ntmps26
  go_wp2
  refine bodyPost_ret (results_cell_row (fn := Try.f26) Try.results26 _ _ w.heap.size 59 #[.int .i64 m, .map (some (w.heap.size + 1))] (0, 0) _ rfl ((heap_alloc_old _ _ (by simp)).trans (heap_alloc_new _ _)) Try.underlying59 rfl (by exact info_queue)) rfl ?_
  refine ⟨w.heap.size + 1, rfl, ⟨#[], 0, ?_, Reads.nil, Stamps.nil 0⟩, ((Below.refl _ w).alloc (Nat.le_refl _) _).alloc (by simp) _, Nat.le_succ _⟩
  have := heap_alloc_new (w.alloc (.cells #[.int .i64 m, .map (some (w.heap.size + 1))] 59)) (.map #[] 0)
  rw [World.size_alloc] at this
  exact this
/-- what New hands back. -/
def NewQP (w : World) (most : Int) (e : Ending) (w' : World) : Prop :=
  Below w.heap.size w w' ∧ (((1 ≤ most ∧ most ≤ 4096) ∧ ∃ q mb, e = .returned (.tuple #[.pointer (some ⟨q, 0, none⟩), .int .i64 0]) ∧ w.heap.size ≤ q ∧ w.heap.size ≤ mb ∧ QueS w' q mb most [] (fun _ => False)) ∨
    (¬ (1 ≤ most ∧ most ≤ 4096) ∧ e = .returned (.tuple #[.pointer none, .int .i64 1])))
set_option maxHeartbeats 2000000 in
theorem newQ_any (w : World) (most : Int) : Calls Try.prog 8 #[.int .i64 most] w (NewQP w most) := by
  have KE := hide (fun w => emptyQ_any w most)
  by_cases h1 : most < 1
  · have HF : Hid (NewQP w most (.returned (.tuple #[.pointer none, .int .i64 1])) w) := hide ⟨Below.refl _ _, .inr ⟨by omega, rfl⟩⟩
    go_enter Try.func8, Try.ntmps8
    go_wp2
    go_ret2
    exact HF.out
  · by_cases h2 : most > 4096
    · have HF : Hid (NewQP w most (.returned (.tuple #[.pointer none, .int .i64 1])) w) := hide ⟨Below.refl _ _, .inr ⟨by omega, rfl⟩⟩
      go_enter Try.func8, Try.ntmps8
      go_wp2
      go_ret2
      exact HF.out
    · have HM := hide (show 1 ≤ most ∧ most ≤ 4096 by omega)
      go_enter Try.func8, Try.ntmps8
      go_wp2_with fail
      refine (KE.out _).mono ?_
      rintro e w1 ⟨b, rfl, hm, hb, hle⟩
      dsimp only
      have HF : Hid (NewQP w most (.returned (.tuple #[.pointer (some ⟨w1.heap.size, 0, none⟩), .int .i64 0])) (w1.alloc (.cells #[.int .i64 most, .map (some b)] 62))) := hide
        ⟨hb.alloc hb.size _, .inl ⟨HM.out, w1.heap.size, b, rfl, hb.size, hle, ⟨heap_alloc_new _ _, ⟨[], hm.of_heap (heap_alloc_old _ _ hm.lt), trivial⟩, OkQ.nil⟩⟩⟩
      clear hm hb hle KE
      go_wp2
      go_ret2
      exact HF.out
end Go.Proofs.Ytajpibopknpmmaa
