/-
  What is passed in a place; what is first in one.
-/
import Derived.Test.YtjdedlmphghpnaaWhp
namespace Go.Proofs.Ytjdedlmphghpnaa
open Go.RowKit
set_option maxRecDepth 100000
set_option linter.unusedVariables false
set_option linter.unusedSimpArgs false
attribute [local go_sem ↓] exec_span exec_put exec_build heap_alloc_new heap_old
attribute [local go_sem] spanQ_ptr spanC_some heap_of_drew heap_of_drewN putAt_ptr putOk_ptr oldOk_some World.setRow_alloc_new rs_Due

theorem asSS (w : World) (p : Nat) : (Instr.typeAssert (.iface 75 (.pointer (some ⟨p, 2, none⟩))) 67 75 true).run Try.prog w = .ok (.tuple #[.pointer (some ⟨p, 2, none⟩), .bool true]) w := by kernel_rfl
theorem asLS (w : World) (p : Nat) : (Instr.typeAssert (.iface 76 (.pointer (some ⟨p, 66, none⟩))) 67 75 true).run Try.prog w = .ok (.tuple #[.pointer none, .bool false]) w := by kernel_rfl
theorem asLL (w : World) (p : Nat) : (Instr.typeAssert (.iface 76 (.pointer (some ⟨p, 66, none⟩))) 67 76 true).run Try.prog w = .ok (.tuple #[.pointer (some ⟨p, 66, none⟩), .bool true]) w := by kernel_rfl
attribute [local go_sem] asSS asLS asLL
theorem passS_any {w : World} {p : Nat} {f to : Int} {Q : Ending → World → Prop} (h : Calls Try.prog 32 #[.pointer (some ⟨p, 2, none⟩), .int .i64 f, .int .i64 to] w fun e w' => ∃ t, e = .returned t ∧ Q (.returned t) w') :
    Calls Try.prog 28 #[plS p, .int .i64 f, .int .i64 to] w fun e w' => ∃ t, e = .returned t ∧ Q (.returned t) w' := by
  have H := hide h
  clear h
  unfold plS
  go_enter Try.func28, Try.ntmps28
  go_wp2_with (first | (go_at_call 32; (with_reducible refine H.out.mono ?_); rintro e w' ⟨t, rfl, h⟩; have HQ := hide h; clear h) | fail)
  go_ret
  exact ⟨_, rfl, HQ.out⟩
theorem passL_any {w : World} {p : Nat} {f to : Int} {Q : Ending → World → Prop} (h : Calls Try.prog 29 #[.pointer (some ⟨p, 66, none⟩), .int .i64 to] w fun e w' => ∃ t, e = .returned t ∧ Q (.returned t) w') :
    Calls Try.prog 28 #[plL p, .int .i64 f, .int .i64 to] w fun e w' => ∃ t, e = .returned t ∧ Q (.returned t) w' := by
  have H := hide h
  clear h
  unfold plL
  go_enter Try.func28, Try.ntmps28
  go_wp2_with (first | (go_at_call 29; (with_reducible refine H.out.mono ?_); rintro e w' ⟨t, rfl, h⟩; have HQ := hide h; clear h) | fail)
  go_ret
  exact ⟨_, rfl, HQ.out⟩
/-- the first of some ticks at which anything is due. -/
def firstF (SL : Nat → List Int) (f : Int) (k : Nat) : Nat → Option (Int × Int)
  | 0 => none
  | n + 1 => match SL (resN f k) with
    | id :: _ => some (id, f + k + 1)
    | [] => firstF SL f (k + 1) n
/-- what a call hands back that tells of a thing, or of none. -/
def retF : Option (Int × Int) → Ending
  | some q => .returned (.tuple #[.agg #[.int .i64 q.1, .int .i64 q.2], .bool true])
  | none => .returned (.tuple #[.agg #[.int .i64 0, .int .i64 0], .bool false])
theorem built_due (a b : Int) : Try.prog.built 43 [(0, .int .i64 a), (1, .int .i64 b)] = some #[.int .i64 a, .int .i64 b] := by kernel_rfl
theorem built_due0 : Try.prog.built 43 [] = some #[.int .i64 0, .int .i64 0] := by kernel_rfl
theorem info_dueS : (Try.prog.info? 43).map (·.size) = some 2 := by kernel_rfl
attribute [local go_sem] built_due built_due0
set_option maxHeartbeats 4000000 in
theorem firstS_any (w : World) (p : Nat) (now : Int) (mv : Value) (S : List Value) (lv : Value) (SL : Nat → List Int) (f : Int)
    (hp : w.heap[p]? = some (.cells (whL now mv S lv).toArray 65 (0, 0))) (hS : S.length = 64)
    (ho : ∀ r, r < 64 → ∃ v, S[r]? = some v ∧ w.ownsRow 0 2 1 v (SL r).length ((SL r).map izV)) (hf : 0 ≤ f ∧ f ≤ 1099511627776) :
    Calls Try.prog 31 #[plS p, .int .i64 f] w fun e w' => e = retF (firstF SL f 0 64) ∧ Below w.heap.size w w' := by
  have hpl : p < w.heap.size := (Array.getElem?_eq_some_iff.1 hp).1
  obtain ⟨w1, hw1, r1, z1, b1⟩ := alloc_nm w (.cells #[.int .i64 0, .int .i64 0] 43)
  have HB := hide b1
  have HR := hide r1
  have HROW : Hid (∀ r, r < 64 → ∃ A n c, n = (SL r).length ∧ n ≤ c ∧ w1.cell? ⟨p, 2 + r, none⟩ = some (.slice A n c) ∧ ∀ id t, SL r = id :: t → ∃ g, A = some ⟨g, 0, none⟩ ∧ w1.cell? ⟨g, 0, none⟩ = some (.int .i64 id)) := hide fun r hr => by
    obtain ⟨v, hv, hov⟩ := ho r hr
    obtain ⟨A, n, c, rfl, hn, hnc⟩ : ∃ A n c, v = .slice A n c ∧ n = (SL r).length ∧ n ≤ c := by
      rcases hov.2 with ⟨e, h0⟩ | ⟨g, cap, cur, e, _, _, h1, _⟩
      · exact ⟨none, 0, 0, e, by omega, by omega⟩
      · exact ⟨_, _, _, e, rfl, h1⟩
    refine ⟨A, n, c, hn, hnc, ?_, fun id t ht => ?_⟩
    · refine (cell_of_row w1 p (2 + r) _ _ (0, 0) ((b1.block p hpl).trans hp)).trans ?_
      rw [List.getElem?_toArray, whL_soon (by omega)]; exact hv
    · rw [← hn] at hov
      obtain ⟨g, h1, hg, h2⟩ := cell_id hov (j := 0) (q := id) (by rw [ht]; rfl)
      exact ⟨g, h1, (b1.cell (show (⟨g, 0, none⟩ : Addr).block < w.heap.size from hg)).trans h2⟩
  clear hp hS ho hpl b1 r1 z1
  unfold plS
  go_enter Try.func31, Try.ntmps31
  go_wp2
  go_loopw [7] (fun sa wr => ∃ k : Nat, k ≤ 64 ∧ sa = .int .i64 (f + k + 1) ∧ wr = w1 ∧ Hid (firstF SL f 0 64 = firstF SL f k (64 - k))) (fun sa _ => ((f + 65) - Go.RowKit.intOf sa).toNat)
  case atStart => exact ⟨0, Nat.zero_le _, by rw [Int.natCast_zero, Int.add_zero], rfl, hide rfl⟩
  case round =>
    obtain ⟨k, hk, rfl, rfl, HE⟩ := hrel
    obtain ⟨a, ha⟩ : ∃ a : Int, a = f + k + 1 := ⟨_, rfl⟩
    have ha1 : 1 ≤ a ∧ a ≤ 1099511627900 := by omega
    have HA := hide ha
    rw [← ha]
    clear ha
    by_cases hlt : k < 64
    · have hle : a ≤ f + 64 := by have := HA.out; omega
      obtain ⟨r, hr⟩ : ∃ r, r = resN f k := ⟨_, rfl⟩
      have hr64 : r < 64 := by rw [hr]; exact resN_lt f k
      have hrem : a.tmod 64 = (r : Int) := by rw [Int.tmod_eq_emod_of_nonneg (by omega), HA.out, resN_eq, hr]
      obtain ⟨A, n, c, hn, hnc, cc, hid⟩ := HROW.out r hr64
      have hr2 : (r : Int) < 64 := by omega
      have HRr := hide hr
      have HN := hide hn
      clear hr hn
      cases hsl : SL r with
      | nil =>
        have hn0 : n = 0 := by rw [HN.out, hsl]; rfl
        subst hn0
        have HE2 : Hid (firstF SL f 0 64 = firstF SL f (k + 1) (64 - (k + 1))) := hide (by
          rw [HE.out, show 64 - k = (64 - (k + 1)) + 1 by omega, firstF, ← HRr.out, hsl])
        clear hid hsl HE
        go_wp2
        go_roundw
        case rel => exact ⟨k + 1, by omega, by rw [show a + 1 = f + ((k + 1 : Nat) : Int) + 1 by have := HA.out; omega], trivial, HE2⟩
        case measure => simp [Go.RowKit.intOf]; omega
      | cons id t =>
        obtain ⟨g, rfl, ci⟩ := hid id t hsl
        have hn0 : 0 < n := by rw [HN.out, hsl]; simp
        have HE2 : Hid (firstF SL f 0 64 = some (id, a)) := hide (by
          rw [HE.out, show 64 - k = (64 - (k + 1)) + 1 by omega, firstF, ← HRr.out, hsl, HA.out])
        have hao : allOne #[.int .i64 id, .int .i64 a] = true := by simp [allOne, Value.oneCell']
        have r1 := HR.out
        clear hid hsl HE
        go_wp2
        refine bodyPost_ret (results_cell_tmp (fn := Try.f31) Try.results31 _ _ w.heap.size 43 #[.int .i64 id, .int .i64 a] (0, 0) _ rfl (setRow_heap _ _ _ _ _ _ HR.out) Try.underlying43 rfl info_dueS) rfl ?_
        refine ⟨by rw [HE2.out]; rfl, below_setRow HB.out (Nat.le_refl _) _⟩
    · obtain rfl : k = 64 := by omega
      have hle : ¬ a ≤ f + 64 := by have := HA.out; omega
      have HE2 : Hid (firstF SL f 0 64 = none) := hide (by rw [HE.out]; rfl)
      have hao : allOne #[.int .i64 0, .int .i64 0] = true := by simp [allOne, Value.oneCell']
      have r1 := HR.out
      clear HE
      go_wp2
      refine bodyPost_ret (results_cell_tmp (fn := Try.f31) Try.results31 _ _ w.heap.size 43 #[.int .i64 0, .int .i64 0] (0, 0) _ rfl (setRow_heap _ _ _ _ _ _ HR.out) Try.underlying43 rfl info_dueS) rfl ?_
      refine ⟨by rw [HE2.out]; rfl, below_setRow HB.out (Nat.le_refl _) _⟩
set_option maxHeartbeats 4000000 in
theorem firstL_any (w : World) (p : Nat) (now : Int) (mv : Value) (S : List Value) (v : Value) (l : List (Int × Int)) (f : Int)
    (hp : w.heap[p]? = some (.cells (whL now mv S v).toArray 65 (0, 0))) (hS : S.length = 64) (ho : w.ownsRow 0 43 2 v l.length (rowD l)) :
    Calls Try.prog 31 #[plL p, .int .i64 f] w fun e w' => e = retF l.head? ∧ Below w.heap.size w w' := by
  have hpl : p < w.heap.size := (Array.getElem?_eq_some_iff.1 hp).1
  obtain ⟨w1, hw1, r1, z1, b1⟩ := alloc_nm w (.cells #[.int .i64 0, .int .i64 0] 43)
  have HB := hide b1
  have HR := hide r1
  have hv66 : (whL now mv S v)[66]? = some v := by have := whL_late (now := now) (mv := mv) (S := S) (lv := v); rwa [hS] at this
  have c1 : w1.cell? ⟨p, 66, none⟩ = some v := (cell_of_row w1 p 66 _ _ (0, 0) ((b1.block p hpl).trans hp)).trans (by rw [List.getElem?_toArray]; exact hv66)
  have hrow := row_bel ho b1
  obtain ⟨A, c, rfl, hnc, hc63, -, hrd⟩ := RowD.of_own hrow
  obtain ⟨n, hn⟩ : ∃ n, n = l.length := ⟨_, rfl⟩
  rw [← hn] at c1 hnc
  have HN := hide hn
  clear hp hS ho hpl b1 hrow hv66 z1 hn
  unfold plL
  cases l with
  | nil =>
    have hn0 : n = 0 := by rw [HN.out]; rfl
    subst hn0
    have hao : allOne #[.int .i64 0, .int .i64 0] = true := by simp [allOne, Value.oneCell']
    clear hrd
    go_enter Try.func31, Try.ntmps31
    go_wp2
    refine bodyPost_ret (results_cell_tmp (fn := Try.f31) Try.results31 _ _ w.heap.size 43 #[.int .i64 0, .int .i64 0] (0, 0) _ rfl (setRow_heap _ _ _ _ _ _ HR.out) Try.underlying43 rfl info_dueS) rfl ?_
    exact ⟨rfl, below_setRow HB.out (Nat.le_refl _) _⟩
  | cons q t =>
    have hn0 : 0 < n := by rw [HN.out]; simp
    obtain ⟨b, X, ty, rfl, hb, hX, hX1, hX2⟩ := hrd 0 q rfl
    obtain ⟨q1, q2⟩ := q
    dsimp only at hX2
    rw [Nat.zero_mul, Nat.zero_add] at hX1 hX2
    have hao : allOne #[.int .i64 q1, .int .i64 q2] = true := by simp [allOne, Value.oneCell']
    clear hrd hb
    go_enter Try.func31, Try.ntmps31
    go_wp2
    refine bodyPost_ret (results_cell_tmp (fn := Try.f31) Try.results31 _ _ w.heap.size 43 #[.int .i64 q1, .int .i64 q2] (0, 0) _ rfl (setRow_heap _ _ _ _ _ _ HR.out) Try.underlying43 rfl info_dueS) rfl ?_
    exact ⟨rfl, below_setRow HB.out (Nat.le_refl _) _⟩
end Go.Proofs.Ytjdedlmphghpnaa
