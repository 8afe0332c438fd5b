/-
  The walks of tuple's Counts: Copy, Total; of the document's Counts.
-/
import Derived.Test.YthfdendkjifhkaaNc
namespace Go.Proofs.Ythfdendkjifhkaa
open Go.RowKit
theorem rs_cnA : rowSize Try.prog 109 = some 12 := by kernel_rfl
attribute [local go_sem ↓] exec_span exec_put exec_build heap_alloc_new heap_old
attribute [local go_sem] spanQ_ptr spanC_some heap_of_drew heap_of_drewN rs_cnt rs_cnA putAt_ptr putOk_ptr oldOk_some World.setRow_alloc_new
set_option maxRecDepth 100000
set_option linter.unusedVariables false
set_option linter.unusedSimpArgs false

theorem u64_one (l : List Nat) : allOne (l.map u64V).toArray = true := by
  unfold allOne
  rw [Array.all_eq_true']
  intro x hx
  simp at hx
  obtain ⟨n, -, rfl⟩ := hx
  rfl
set_option maxHeartbeats 1000000 in
theorem copyC_any (w : World) (g most : Nat) (l : List Nat) (h : CntS w g most l) :
    Calls Try.prog 38 #[.pointer (some ⟨g, 0, none⟩)] w fun e w' => ∃ g', e = .returned (.pointer (some ⟨g', 0, none⟩)) ∧ CntS w' g' most l ∧ w.heap.size ≤ g' ∧ Below w.heap.size w w' := by
  obtain ⟨X, hX⟩ : ∃ X : Array Value, X = (u64V most :: l.map u64V).toArray := ⟨_, rfl⟩
  have hb := h.blk
  rw [← hX] at hb
  have hs : X.size = 13 := by rw [hX]; simp [h.len]
  have h0 : X.extract 0 13 = X := by rw [← hs]; simp
  have ho : allOne X = true := by
    have := u64_one (most :: l)
    rw [hX]; exact this
  have hF : Hid (CntS (w.alloc (.cells X 111)) w.heap.size most l) := hide ⟨by rw [heap_alloc_new, hX], h.len, h.le, h.m⟩
  clear hX h
  go_enter Try.func38, Try.ntmps38
  go_wp2
  go_ret
  exact ⟨_, rfl, hF.out, Nat.le_refl _, (Below.refl _ _).alloc (Nat.le_refl _) _⟩
def totL (l : List Nat) : Nat := l.foldl (fun a n => togS a n 18446744073709551615) 0
theorem tot_le (l : List Nat) : ∀ a, a ≤ 18446744073709551615 → l.foldl (fun a n => togS a n 18446744073709551615) a ≤ 18446744073709551615 := by
  induction l with
  | nil => intro a h; exact h
  | cons n t ih => intro a h; exact ih _ (togS_le h)
theorem tot_succ (l : List Nat) (j : Nat) (h : j < l.length) : totL (l.take (j + 1)) = togS (totL (l.take j)) l[j] 18446744073709551615 := by
  unfold totL
  rw [List.take_succ_eq_append_getElem h, List.foldl_append]
  rfl
theorem index_u64 (w : World) (Y : Array Value) (j : Nat) (v : Value) (hj : j < 12) (hy : Y[j]? = some v) : (Instr.index 109 (.agg Y) (.int .i64 (j : Int))).run Try.prog w = .ok v w := by
  have e1 : (isAgg 69).run Try.prog w = .ok false w := by kernel_rfl
  have e2 : (sizeOf 69).run Try.prog w = .ok 1 w := by kernel_rfl
  have hi : (0 : Int) ≤ (j : Int) ∧ (j : Int) < ((12 : Nat) : Int) := by omega
  simp [Instr.index, asIntOf, run_underlying Try.underlying109, part, e1, e2, hi.1, hj, hy, go_sem]
set_option maxHeartbeats 2000000 in
theorem totalC_any (w : World) (g most : Nat) (l : List Nat) (h : CntS w g most l) :
    Calls Try.prog 39 #[.pointer (some ⟨g, 0, none⟩)] w fun e w' => e = .returned (.int .u64 ((totL l : Nat) : Int)) ∧ w = w' := by
  obtain ⟨X, hX⟩ : ∃ X : Array Value, X = (u64V most :: l.map u64V).toArray := ⟨_, rfl⟩
  have hb := h.blk
  rw [← hX] at hb
  have hs : X.size = 13 := by rw [hX]; simp [h.len]
  obtain ⟨Y, hY⟩ : ∃ Y : Array Value, Y = (l.map u64V).toArray := ⟨_, rfl⟩
  have h0 : X.extract 1 13 = Y := by
    rw [hX, hY, List.extract_toArray]
    congr 1
    simp only [List.extract_eq_take_drop, List.drop_succ_cons, List.drop_zero]
    rw [List.take_of_length_le (by simp [h.len])]
  have hYs : Y.size = 12 := by rw [hY]; simp [h.len]
  have HYk := hide (fun k (hk : k < l.length) => (by rw [hY]; simp [hk, u64V] : Y[k]? = some (.int .u64 (l[k] : Int))))
  have HL := hide h.len
  have HLE := hide h.le
  have HM := hide h.m
  clear hX hY h
  go_enter Try.func39, Try.ntmps39
  go_wp2
  go_loopw [3, 12] (fun v i wr => ∃ j : Nat, j ≤ 12 ∧ i = .int .i64 (j : Int) ∧ v = .int .u64 ((totL (l.take j) : Nat) : Int) ∧ wr = w)
    (fun _ i _ => 12 - (intOf i).toNat)
  case atStart => exact ⟨0, by omega, rfl, rfl, rfl⟩
  case round =>
    obtain ⟨j, hj, rfl, rfl, rfl⟩ := hrel
    by_cases hlt : j < 12
    · have hjl : j < l.length := by rw [HL.out]; exact hlt
      have yk := HYk.out j hjl
      have hsu := tot_succ l j hjl
      have hle := HLE.out l[j] (List.getElem_mem hjl)
      obtain ⟨n, hn⟩ : ∃ n, n = l[j] := ⟨_, rfl⟩
      rw [← hn] at yk hsu hle
      have hix := fun (W1 : World) => index_u64 W1 Y j _ hlt yk
      have KT := hide (fun (W1 : World) => together_any W1 (totL (l.take j)) n 18446744073709551615 (tot_le _ 0 (Nat.zero_le _)) (by have := HM.out; omega) (by omega))
      rw [← hsu] at KT
      have hlt' : (j : Int) < 12 := by omega
      have i0 : (0 : Int) ≤ (j : Int) := by omega
      clear hn hsu hjl
      go_wp2_with fail
      refine (KT.out _).mono ?_
      rintro e w2 ⟨rfl, rfl⟩
      dsimp only
      go_wp2
      go_roundw
      case rel => exact ⟨j + 1, by omega, by go_num, rfl, by first | rfl | trivial⟩
      case measure => simp [intOf]; omega
    · obtain rfl : j = 12 := by omega
      have hf : Hid (totL (l.take 12) = totL l) := hide (by rw [List.take_of_length_le (by rw [HL.out]; exact Nat.le_refl _)])
      clear hlt
      go_wp2
      go_ret
      exact ⟨by rw [← hf.out]; rfl, rfl⟩
end Go.Proofs.Ythfdendkjifhkaa
