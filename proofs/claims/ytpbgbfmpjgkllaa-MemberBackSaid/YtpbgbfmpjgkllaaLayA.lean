/-
  The walks of Lay's parts at whatever piece: fits, length.
-/
import Derived.Test.YtpbgbfmpjgkllaaLay1
namespace Go.Proofs.Ytpbgbfmpjgkllaa
open Go.RowKit
set_option maxRecDepth 100000

/-- whether what is laid can be what its piece is said to be. -/
def fitsS (N bl : Nat) (kd sz : Int) : Bool :=
  if kd = 0 then decide (1 ≤ sz ∧ sz ≤ 8) && (decide (N < 256 ^ sz.toNat) && decide (bl = 0))
  else if kd = 1 then decide ((bl : Int) = sz) && decide (N = 0)
  else if kd = 2 ∨ kd = 3 then decide (0 ≤ sz) && (decide (N = 0) && decide (bl = 0))
  else if kd = 4 then decide (sz = 0) && decide (N = 0)
  else false
theorem div_not_zero {N m : Nat} (h : ¬ N < 256 ^ m) : (((N : Int) / 2 ^ (8 * m)) == 0) = false := by
  rw [pow256] at h
  have e : ((N : Int) / 2 ^ (8 * m)) = ((N / 2 ^ (8 * m) : Nat) : Int) := by simp
  have h1 : 0 < N / 2 ^ (8 * m) := Nat.div_pos (by omega) (Nat.pow_pos (by omega))
  rw [e, beq_eq_false_iff_ne]; omega
theorem beq_dec (a b : Int) : (a == b) = decide (a = b) := by by_cases h : a = b <;> simp [h]

set_option maxHeartbeats 2000000 in
theorem fits_any (w : World) (N bl c : Nat) (A : Option Addr) (kd sz : Int) :
    Calls Try.prog 68 #[.agg #[.int .u64 (N : Int), .slice A bl c], .agg #[.int .i64 kd, .int .i64 sz]] w fun e w' => e = .returned (.bool (fitsS N bl kd sz)) ∧ Below w.heap.size w w' := by
  have hbw : ∀ (a b : Obj), Below w.heap.size w ((w.alloc a).alloc b) := fun a b => ((Below.refl _ _).alloc (Nat.le_refl _) _).alloc (by simp) _
  by_cases h0 : kd = 0
  · subst h0
    by_cases hs : 1 ≤ sz ∧ sz ≤ 8
    · obtain ⟨m, rfl⟩ : ∃ m : Nat, sz = (m : Int) := ⟨sz.toNat, by omega⟩
      have hright : (decide ((1 : Int) ≤ (m : Int)) && decide ((m : Int) ≤ 8)) = true := by simp; omega
      have hR := rightSize_any (m : Int)
      rw [hright] at hR
      have HR := hide hR
      have hm1 : 1 ≤ m := by omega
      have hm8 : m ≤ 8 := by omega
      by_cases hz : N < 256 ^ m
      · have hd := div_zero_of hz
        have hf : fitsS N bl 0 (m : Int) = decide ((bl : Int) = 0) := by
          unfold fitsS
          rw [if_pos rfl, decide_eq_true hs, Int.toNat_natCast, decide_eq_true hz, Bool.true_and, Bool.true_and]
          by_cases h : bl = 0 <;> simp [h]
        rw [hf]
        clear hright hR hf
        go_enter Try.func68, Try.ntmps68
        go_wp2_with (go_at_call 72; refine (HR.out _).mono ?_; rintro e w' ⟨rfl, rfl⟩)
        go_ret
        exact ⟨by first | rfl | (rw [← beq_dec]), hbw _ _⟩
      · have hd := div_not_zero hz
        have hf : fitsS N bl 0 (m : Int) = false := by
          unfold fitsS
          rw [if_pos rfl, Int.toNat_natCast, decide_eq_false hz, Bool.false_and, Bool.and_false]
        rw [hf]
        clear hright hR hf
        go_enter Try.func68, Try.ntmps68
        go_wp2_with (go_at_call 72; refine (HR.out _).mono ?_; rintro e w' ⟨rfl, rfl⟩)
        go_ret
        exact ⟨rfl, hbw _ _⟩
    · have hright : (decide ((1 : Int) ≤ sz) && decide (sz ≤ 8)) = false := by
        rw [Bool.eq_false_iff]; intro h; simp at h; exact hs h
      have hR := rightSize_any sz
      rw [hright] at hR
      have HR := hide hR
      have hf : fitsS N bl 0 sz = false := by
        unfold fitsS
        rw [if_pos rfl, decide_eq_false hs, Bool.false_and]
      rw [hf]
      clear hright hR hf
      go_enter Try.func68, Try.ntmps68
      go_wp2_with (go_at_call 72; refine (HR.out _).mono ?_; rintro e w' ⟨rfl, rfl⟩)
      go_ret
      exact ⟨rfl, hbw _ _⟩
  · by_cases h1 : kd = 1
    · subst h1
      have hf : fitsS N bl 1 sz = (decide ((bl : Int) = sz) && decide ((N : Int) = 0)) := by
        unfold fitsS
        rw [if_neg h0, if_pos rfl]
        by_cases h : N = 0 <;> simp [h]
      rw [hf]
      clear hf
      by_cases hb : (bl : Int) = sz
      · rw [decide_eq_true hb, Bool.true_and]
        have hbi : ((bl : Int) == sz) = true := by simpa using hb
        have HB := hide hb
        clear hb
        go_enter Try.func68, Try.ntmps68
        go_wp2
        go_ret
        exact ⟨by first | rfl | (rw [← beq_dec]), hbw _ _⟩
      · rw [decide_eq_false hb, Bool.false_and]
        have hbi : ((bl : Int) == sz) = false := by simpa using hb
        have HB := hide hb
        clear hb
        go_enter Try.func68, Try.ntmps68
        go_wp2
        go_ret
        exact ⟨rfl, hbw _ _⟩
    · by_cases h23 : kd = 2 ∨ kd = 3
      · have hf : fitsS N bl kd sz = (decide (0 ≤ sz) && (decide ((N : Int) = 0) && decide ((bl : Int) = 0))) := by
          unfold fitsS
          rw [if_neg h0, if_neg h1, if_pos h23]
          by_cases h : N = 0 <;> by_cases h' : bl = 0 <;> simp [h, h']
        rw [hf]
        clear hf
        by_cases hz : 0 ≤ sz
        · rw [decide_eq_true hz, Bool.true_and]
          by_cases hN : N = 0
          · subst hN
            rw [show ((0 : Nat) : Int) = 0 from rfl, decide_eq_true (rfl : (0 : Int) = 0), Bool.true_and]
            rcases h23 with rfl | rfl <;>
            · go_enter Try.func68, Try.ntmps68
              go_wp2
              go_ret
              exact ⟨by first | rfl | (rw [← beq_dec]), hbw _ _⟩
          · have hNi : ((N : Int) == 0) = false := by rw [beq_eq_false_iff_ne]; omega
            rw [decide_eq_false (show ¬ (N : Int) = 0 from by omega), Bool.false_and]
            clear hN
            rcases h23 with rfl | rfl <;>
            · go_enter Try.func68, Try.ntmps68
              go_wp2
              go_ret
              exact ⟨rfl, hbw _ _⟩
        · rw [decide_eq_false hz, Bool.false_and]
          rcases h23 with rfl | rfl <;>
          · go_enter Try.func68, Try.ntmps68
            go_wp2
            go_ret
            exact ⟨rfl, hbw _ _⟩
      · by_cases h4 : kd = 4
        · subst h4
          have hf : fitsS N bl 4 sz = (decide (sz = 0) && decide ((N : Int) = 0)) := by
            unfold fitsS
            rw [if_neg h0, if_neg h1, if_neg h23, if_pos rfl]
            by_cases h : N = 0 <;> simp [h]
          rw [hf]
          clear hf
          by_cases hz : sz = 0
          · subst hz
            rw [decide_eq_true (rfl : (0 : Int) = 0), Bool.true_and]
            go_enter Try.func68, Try.ntmps68
            go_wp2
            go_ret
            exact ⟨by first | rfl | (rw [← beq_dec]), hbw _ _⟩
          · have hzi : (sz == 0) = false := by simpa using hz
            rw [decide_eq_false hz, Bool.false_and]
            go_enter Try.func68, Try.ntmps68
            go_wp2
            go_ret
            exact ⟨rfl, hbw _ _⟩
        · have hf : fitsS N bl kd sz = false := by
            unfold fitsS
            rw [if_neg h0, if_neg h1, if_neg h23, if_neg h4]
          rw [hf]
          have k0 : (kd == 0) = false := by simpa using h0
          have k1 : (kd == 1) = false := by simpa using h1
          have k2 : (kd == 2) = false := by rw [beq_eq_false_iff_ne]; omega
          have k3 : (kd == 3) = false := by rw [beq_eq_false_iff_ne]; omega
          have k4 : (kd == 4) = false := by simpa using h4
          clear hf
          go_enter Try.func68, Try.ntmps68
          go_wp2
          go_ret
          exact ⟨rfl, hbw _ _⟩

theorem length_any (w : World) (N bl c : Nat) (A : Option Addr) (kd sz : Int) :
    Calls Try.prog 69 #[.agg #[.int .u64 (N : Int), .slice A bl c], .agg #[.int .i64 kd, .int .i64 sz]] w fun e w' => e = .returned (.int .i64 (if kd = 4 then (bl : Int) else sz)) ∧ Below w.heap.size w w' := by
  have hbw : ∀ (a b : Obj), Below w.heap.size w ((w.alloc a).alloc b) := fun a b => ((Below.refl _ _).alloc (Nat.le_refl _) _).alloc (by simp) _
  by_cases h4 : kd = 4
  · subst h4
    rw [if_pos rfl]
    go_enter Try.func69, Try.ntmps69
    go_wp2
    go_ret
    exact ⟨rfl, hbw _ _⟩
  · rw [if_neg h4]
    have k4 : (kd == 4) = false := by simpa using h4
    go_enter Try.func69, Try.ntmps69
    go_wp2
    go_ret
    exact ⟨rfl, hbw _ _⟩
end Go.Proofs.Ytpbgbfmpjgkllaa
