/-
  The walk of GossipTimes.
-/
import Derived.Test.YtajpibopknpmmaaGq
import Derived.Lib.ItoaNum
namespace Go.Proofs.Ytajpibopknpmmaa
open Go.RowKit
set_option maxRecDepth 100000
set_option linter.unusedVariables false
set_option linter.unusedSimpArgs false

theorem bitLen_is {m b : Nat} (h1 : 2 ^ (b - 1) ≤ m) (h2 : m < 2 ^ b) (hb : 1 ≤ b) (hm : m < 2 ^ 64) (h0 : m ≠ 0) : Go.Lib.bitLen m = b := by
  obtain ⟨g0, g1, g2⟩ := Go.Lib.bitLenAux_bounds 64 m hm h0
  change 1 ≤ Go.Lib.bitLen m at g0
  change 2 ^ (Go.Lib.bitLen m - 1) ≤ m at g1
  change m < 2 ^ Go.Lib.bitLen m at g2
  generalize Go.Lib.bitLen m = c at g0 g1 g2 ⊢
  rcases Nat.lt_trichotomy c b with h | h | h
  · have : 2 ^ c ≤ 2 ^ (b - 1) := Nat.pow_le_pow_right (by omega) (by omega)
    omega
  · exact h
  · have : 2 ^ b ≤ 2 ^ (c - 1) := Nat.pow_le_pow_right (by omega) (by omega)
    omega
theorem timesN_one {n : Int} (h : n < 2) : timesN n = 3 * 1 := by
  unfold timesN
  rw [show (max n 1).toNat = 1 by omega]
  decide
theorem timesN_is {n : Int} {b : Nat} (hb : 2 ≤ b) (h1 : ((2 ^ (b - 1) : Nat) : Int) ≤ n) (h2 : n < ((2 ^ b : Nat) : Int)) (hn : n ≤ 9223372036854775807) : timesN n = 3 * b := by
  have h0 : 0 < 2 ^ (b - 1) := Nat.pow_pos (by omega)
  unfold timesN
  rw [show (max n 1).toNat = n.toNat by omega, bitLen_is (b := b) (by omega) (by omega) (by omega) (by omega) (by omega)]
set_option maxHeartbeats 4000000 in
theorem timesR_any (w : World) (n : Int) (hn : -9223372036854775808 ≤ n ∧ n ≤ 9223372036854775807) : Calls Try.prog 24 #[.int .i64 n] w fun e w' => e = .returned (.int .i64 (timesN n : Nat)) ∧ Below w.heap.size w w' := by
  have HN := hide hn
  have HG : Hid (∀ k : Nat, timesN n = 3 * k → Ending.returned (.int .i64 (3 * (k : Int))) = Ending.returned (.int .i64 (timesN n : Nat))) := hide (fun k hk => by rw [hk]; simp)
  clear hn
  go_enter Try.func24, Try.ntmps24
  go_wp2
  go_loopw [3] (fun v wr => ∃ k : Nat, (1 ≤ k ∧ k ≤ 62) ∧ v = .int .i64 (k : Int) ∧ wr = w ∧ Hid (k = 1 ∨ ((2 ^ (k - 1) : Nat) : Int) ≤ n)) (fun v _ => 62 - (Go.RowKit.intOf v).toNat)
  case atStart => exact ⟨1, by omega, rfl, rfl, hide (.inl rfl)⟩
  case round =>
    obtain ⟨k, hk, rfl, rfl, hI⟩ := hrel
    have hk0 : (0 : Int) ≤ (k : Int) := by omega
    by_cases hlt : k < 62
    · have hki : (k : Int) < 62 := by omega
      obtain ⟨P, hP⟩ : ∃ P : Nat, P = 2 ^ k := ⟨_, rfl⟩
      have e : ((2 : Int) ^ k) = (P : Int) := by rw [hP]; simp
      have hb : P ≤ 2 ^ 61 := by rw [hP]; exact Nat.pow_le_pow_right (by omega) (by omega)
      have hsh : wrap64 ((2 : Int) ^ k) = (P : Int) := by rw [e]; unfold wrap64; omega
      have HP := hide hP
      clear hP e
      by_cases hle : (P : Int) ≤ n
      · have HL := hide (show k + 1 = 1 ∨ ((2 ^ (k + 1 - 1) : Nat) : Int) ≤ n from .inr (by rw [Nat.add_sub_cancel, ← HP.out]; exact hle))
        have HE := hide hle
        go_wp2
        go_roundw
        case rel => exact ⟨k + 1, by omega, by go_num, trivial, HL⟩
        case measure => simp [Go.RowKit.intOf]; omega
      · have h2 : ¬ (4611686018427387903 < n) := by omega
        have HT : Hid (timesN n = 3 * k) := hide (by
          rcases hI.out with h | h
          · rw [h] at HP ⊢; exact timesN_one (by have := HP.out; omega)
          · by_cases h3 : k = 1
            · rw [h3] at HP ⊢; exact timesN_one (by have := HP.out; omega)
            · exact timesN_is (by omega) h (by rw [← HP.out]; omega) HN.out.2)
        have HR := hide (HG.out k HT.out)
        go_wp2
        go_ret
        exact ⟨HR.out, Below.refl _ _⟩
    · obtain rfl : k = 62 := by omega
      have h1 : ((2 ^ (62 - 1) : Nat) : Int) ≤ n := by
        rcases hI.out with h | h
        · omega
        · exact h
      by_cases h3 : 4611686018427387903 < n
      · have HR := hide (HG.out 63 (timesN_is (by omega) (by omega) (by have := HN.out; omega) HN.out.2))
        go_wp2
        go_ret
        exact ⟨HR.out, Below.refl _ _⟩
      · have HR := hide (HG.out 62 (timesN_is (by omega) h1 (by omega) HN.out.2))
        go_wp2
        go_ret
        exact ⟨HR.out, Below.refl _ _⟩
set_option maxHeartbeats 2000000 in
theorem gossipTimes_any (w : World) (n : Int) (hn : -9223372036854775808 ≤ n ∧ n ≤ 9223372036854775807) : Calls Try.prog 4 #[.int .i64 n] w (RetV w (.bool true)) := by
  have K1 := hide (fun p : BW w => times_any p.w n hn)
  have K2 := hide (fun p : BW w => (show Calls Try.prog 24 #[.int .i64 n] p.w (RetV p.w (.int .i64 (timesN n : Nat))) from timesR_any p.w n hn))
  have K5 := hide (fun p : BW w => known15_any p.w)
  obtain ⟨m, hm⟩ : ∃ m : Int, m = (timesN n : Nat) := ⟨_, rfl⟩
  rw [← hm] at K1 K2
  clear hm
  go_enter Try.func4, Try.ntmps4
  go_upto_region 1 with (fail)
  first | refine wp_region_belowS w (Below.refl _ _) ?_ | refine wp_region_below w (Below.refl _ _) (by kernel_rfl) (by kernel_rfl) ?_
  try simp only [List.append_eq, List.cons_append, List.nil_append]
  repeat
    first
    | (go_big_quiet_step (first
    | ((go_at_call 23; with_reducible exact Calls.bel_eq (K1.out _)))
    | ((go_at_call 24; with_reducible exact Calls.bel (K2.out _)))
    | ((go_at_call 10; with_reducible exact Calls.bel (K5.out _)))
    | fail))
  refine wpQuiet_nil ?_
  intro _ hw'
  obtain ⟨pq, hw''⟩ := hw'
  subst hw''
  go_wp2
  go_ret
  exact ⟨rfl, pq.below⟩
end Go.Proofs.Ytajpibopknpmmaa
