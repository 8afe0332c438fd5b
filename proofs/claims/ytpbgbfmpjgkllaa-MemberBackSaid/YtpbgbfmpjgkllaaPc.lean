/-
  The walks of the Reader's pieces: num, take, skip, zero, rest. Each reads and stands behind what it read, or gives up by a panic and has moved nothing.
-/
import Derived.Test.YtpbgbfmpjgkllaaRd
namespace Go.Proofs.Ytpbgbfmpjgkllaa
open Go.RowKit
set_option maxRecDepth 100000

theorem Byt.row {w w' : World} {g : Nat} {A : Option Addr} {l : List UInt8} (hb : Byt w g A l) (hg : w.grownBy w' (some g)) : Byt w' g A l := fun hl => by
  obtain ⟨b, off, e, hlt, hc⟩ := hb hl
  refine ⟨b, off, e, hlt, fun i hi => ?_⟩
  exact hg.cell (hc i hi) (by simp; omega)
theorem grown_set (w : World) (g i : Nat) (u : Value) : w.grownBy (w.setCell ⟨g, i, none⟩ u) (some g) :=
  ⟨rfl, rfl, rfl, by simp, fun k _ hk => Below.heap_setCell w ⟨g, i, none⟩ u k (fun e => hk (by rw [e]))⟩
theorem grown_trans {a b c : World} {row : Option Nat} (h : a.grownBy b row) (k : b.grownBy c row) : a.grownBy c row :=
  ⟨k.os.trans h.os, k.tape.trans h.tape, k.output.trans h.output, Nat.le_trans h.size k.size, fun i hi hr => (k.block i (Nat.lt_of_lt_of_le hi h.size) hr).trans (h.block i hi hr)⟩
theorem grown_drewN {a b : World} {row : Option Nat} (h : a.grownBy b row) (n : Nat) : a.grownBy (b.drewN n) row := ⟨h.os, h.tape, h.output, h.size, h.block⟩
theorem grown_of_drewN {a b : World} {row : Option Nat} {n : Nat} (h : (a.drewN n).grownBy b row) : a.grownBy b row := ⟨h.os, h.tape, h.output, h.size, h.block⟩

/-- a number, its highest byte first. -/
def numS (l : List UInt8) : Nat := l.foldl (fun n x => n * 256 + x.toNat) 0
theorem numS_snoc (l : List UInt8) (x : UInt8) : numS (l ++ [x]) = numS l * 256 + x.toNat := by simp [numS]
theorem fold_lt (l : List UInt8) : ∀ a : Nat, l.foldl (fun n x => n * 256 + x.toNat) a < (a + 1) * 256 ^ l.length := by
  induction l with
  | nil => intro a; simp
  | cons x t ih =>
    intro a
    have hx := x.toNat_lt
    have h1 := ih (a * 256 + x.toNat)
    have h2 : (a * 256 + x.toNat + 1) * 256 ^ t.length ≤ ((a + 1) * 256) * 256 ^ t.length := Nat.mul_le_mul_right _ (by omega)
    rw [List.foldl_cons, List.length_cons, Nat.pow_succ, Nat.mul_comm (256 ^ t.length) 256, ← Nat.mul_assoc]
    omega
theorem numS_lt (l : List UInt8) : numS l < 256 ^ l.length := by
  have := fold_lt l 0
  rw [Nat.zero_add, Nat.one_mul] at this
  exact this
theorem or_num (N : Nat) (x : UInt8) (h : N < 256 ^ 7) : bits .or .u64 (IntKind.u64.wrap ((N : Int) * 256)) (x.toNat : Int) = ((N * 256 + x.toNat : Nat) : Int) := by
  have hx := x.toNat_lt
  have h7 : (256 : Nat) ^ 7 = 72057594037927936 := by decide
  rw [h7] at h
  rw [IntKind.wrap_u64]
  have e : ((N : Int) * 256 % 18446744073709551616) = ((N * 256 : Nat) : Int) := by omega
  rw [e]
  have h2 := u64_or_nat (N * 256) x.toNat (by omega) (by omega)
  rw [nat_join 8 _ _ (by omega) (by omega)] at h2
  exact h2

set_option maxHeartbeats 2000000 in
theorem num_ok (w : World) (g : Nat) (A : Option Addr) (l : List UInt8) (c k : Nat) (er : Int) (h : Rd w g A l.length c k er) (m : Nat) (hm1 : 1 ≤ m) (hm8 : m ≤ 8) (hl : l.length ≤ c) (hn : l.length ≤ 140737488420864) (hk : k + m ≤ l.length) (hb : Byt w g A l) :
    Calls Try.prog 64 #[.pointer (some ⟨g, 0, none⟩), .int .i64 (m : Int)] w fun e w' => e = .returned (.int .u64 (numS ((l.drop k).take m) : Nat)) ∧ Rd w' g A l.length c (k + m) er ∧ w.grownBy w' (some g) := by
  have hright : (decide ((1 : Int) ≤ (m : Int)) && decide ((m : Int) ≤ 8)) = true := by simp; omega
  have hR := rightSize_any (m : Int)
  rw [hright] at hR
  have HR := hide hR
  clear hright hR
  have hcall := ahead_ok w g g A l c k er h m hl hn hk hb
  obtain ⟨r, hr⟩ : ∃ r, r = (l.drop k).take m := ⟨_, rfl⟩
  rw [← hr] at hcall ⊢
  have hrl : r.length = m := by rw [hr]; simp; omega
  have HC := hide hcall
  have HRL := hide hrl
  clear hcall hr hrl
  go_enter Try.func64, Try.ntmps64
  go_wp2_with (go_at_call 72; refine (HR.out _).mono ?_; rintro e w' ⟨rfl, rfl⟩)
  go_wp2_with fail
  refine HC.out.mono ?_
  rintro e w1 ⟨⟨A', c', rfl, hmc, hby⟩, q, rfl⟩
  go_wp2
  go_loop [5, 7, 16] (fun n _ i => ∃ j : Nat, j ≤ m ∧ n = .int .u64 (numS (r.take j) : Nat) ∧ i = .int .i64 (j : Int)) (fun _ _ i => m - (intOf i).toNat)
  case atStart => exact ⟨0, by omega, rfl, rfl⟩
  case round =>
    obtain ⟨j, hj, rfl, rfl⟩ := hrel
    by_cases hlt : j < m
    · obtain ⟨b, off, rfl, hbB, hcell⟩ := hby (by rw [HRL.out]; omega)
      obtain ⟨x, hx0⟩ : ∃ x, x = r[j]'(by rw [HRL.out]; omega) := ⟨_, rfl⟩
      have hx : x.toNat ≤ 255 := by have := x.toNat_lt; omega
      have hc0 : (w.drewN q).cell? ⟨b, off + j, none⟩ = some (.int .u8 (x.toNat : Int)) := by rw [hx0]; exact hcell j _
      obtain ⟨N, hN⟩ : ∃ N, N = numS (r.take j) := ⟨_, rfl⟩
      rw [← hN]
      have HN := hide hN
      clear hN hcell
      have HX := hide hx0
      clear hx0
      go_wp2
      go_round
      case rel => exact ⟨j + 1, by omega, by
        have hlt7 : N < 256 ^ 7 := by
          rw [HN.out]
          have h1 := numS_lt (r.take j)
          have h2 : (r.take j).length ≤ 7 := by rw [List.length_take]; omega
          have h3 : 256 ^ (r.take j).length ≤ 256 ^ 7 := Nat.pow_le_pow_right (by omega) h2
          omega
        rw [or_num N x hlt7, List.take_succ_eq_append_getElem (by rw [HRL.out]; omega), numS_snoc, HN.out, HX.out], by go_num⟩
      case measure => simp [intOf]; omega
    · obtain rfl : j = m := by omega
      have hfull : r.take j = r := List.take_of_length_le (by rw [HRL.out]; omega)
      rw [hfull]
      clear hfull hlt
      have h1 : (w.drewN q).cell? ⟨g, 1, none⟩ = some (.int .i64 (k : Int)) := h.c1
      have hf1 : (w.drewN q).frozen? ⟨g, 1, none⟩ = false := h.fr 1
      have hR' := (h.drewN q).setK (k + j)
      have hg' : w.grownBy ((w.drewN q).setCell ⟨g, 1, none⟩ (.int .i64 ((k + j : Nat) : Int))) (some g) := grown_of_drewN (n := q) (grown_set _ g 1 _)
      rw [show (((k + j : Nat)) : Int) = (k : Int) + (j : Int) from by omega] at hR' hg'
      have H1 := hide hR'
      have H2 := hide hg'
      clear hR' hg'
      go_wp2
      go_ret
      exact ⟨rfl, H1.out, H2.out⟩

set_option maxHeartbeats 1000000 in
theorem num_bad (w : World) (g : Nat) (m : Int) (hm : ¬ (1 ≤ m ∧ m ≤ 8)) :
    Calls Try.prog 64 #[.pointer (some ⟨g, 0, none⟩), .int .i64 m] w fun e w' => e = giveUp 1 ∧ ∃ q, w' = w.drewN q := by
  have hwrong : (decide ((1 : Int) ≤ m) && decide (m ≤ 8)) = false := by simp; omega
  have hR := rightSize_any m
  rw [hwrong] at hR
  have HR := hide hR
  clear hwrong hR
  go_enter Try.func64, Try.ntmps64
  go_wp2_with (go_at_call 72; refine (HR.out _).mono ?_; rintro e w' ⟨rfl, rfl⟩)
  exact ⟨rfl, rfl, 0, rfl⟩

set_option maxHeartbeats 1000000 in
theorem num_short (w : World) (g : Nat) (A : Option Addr) (n c k : Nat) (er : Int) (h : Rd w g A n c k er) (m : Int) (hm1 : 1 ≤ m) (hm8 : m ≤ 8) (hn : n ≤ 140737488420864) (hk : k ≤ n) (hs : (n : Int) - k < m) :
    Calls Try.prog 64 #[.pointer (some ⟨g, 0, none⟩), .int .i64 m] w fun e w' => e = giveUp 10 ∧ ∃ q, w' = w.drewN q := by
  have hright : (decide ((1 : Int) ≤ m) && decide (m ≤ 8)) = true := by simp; omega
  have hR := rightSize_any m
  rw [hright] at hR
  have HR := hide hR
  have HC := hide (ahead_short w g A n c k er h m (by omega) hn hk hs)
  clear hright hR
  go_enter Try.func64, Try.ntmps64
  go_wp2_with (go_at_call 72; refine (HR.out _).mono ?_; rintro e w' ⟨rfl, rfl⟩)
  go_wp2_with fail
  refine HC.out.mono ?_
  rintro e w1 ⟨rfl, q, rfl⟩
  go_wp2
  exact ⟨rfl, rfl, q, rfl⟩

end Go.Proofs.Ytpbgbfmpjgkllaa
