import Derived.Test.YtmbddengmheeeaaWc
namespace Go.Proofs.Ytmbddengmheeeaa
open Go.RowKit
attribute [local go_sem] ord_none_lt ord_none_gt ord_none_eq ord_none_ne ord_lt_lt ord_lt_gt ord_lt_eq ord_lt_ne ord_gt_lt ord_gt_gt ord_gt_eq ord_gt_ne ord_eq_lt ord_eq_gt ord_eq_eq ord_eq_ne store_fl unary_negF
/-- a word's kind, its place and what it counts, case by case. -/
theorem plc_all {b : Nat} (hb : b < 2 ^ 64) :
    (plc b = 6 ∧ posF b = 4 * (fI : Int) ∧ fI < fR b) ∨ (plc b = 5 ∧ posF b = 2 * (fI : Int) ∧ fR b = fI ∧ fS b = false ∧ b = fI) ∨ (plc b = 0 ∧ posF b = -(2 * (fI : Int) + 1) ∧ fR b = fI ∧ fS b = true) ∨
    (plc b = 4 ∧ posF b = 2 * (fR b : Int) ∧ 0 < fR b ∧ fR b < fI ∧ fS b = false ∧ b = fR b) ∨ (plc b = 1 ∧ posF b = -(2 * (fR b : Int) + 1) ∧ 0 < fR b ∧ fR b < fI ∧ fS b = true) ∨
    (plc b = 3 ∧ posF b = 0 ∧ fR b = 0 ∧ fS b = false ∧ b = 0) ∨ (plc b = 2 ∧ posF b = -1 ∧ fR b = 0 ∧ fS b = true ∧ b = 2 ^ 63) := by
  have hI := fI_pos
  unfold plc posF
  by_cases hn : fI < fR b
  · left; rw [if_pos hn, if_pos hn]; exact ⟨rfl, rfl, hn⟩
  · right
    rw [if_neg hn, if_neg hn]
    rcases word_split hb with ⟨h1, h2, h3⟩ | ⟨h1, h2⟩
    · rw [h1]
      by_cases hi : fR b = fI
      · left; rw [if_pos hi, hi]; exact ⟨rfl, rfl, rfl, rfl, by omega⟩
      · rw [if_neg hi]
        by_cases h0 : fR b = 0
        · right; right; right; right; left; rw [if_pos h0, h0]; exact ⟨rfl, rfl, rfl, rfl, by omega⟩
        · right; right; left; rw [if_neg h0]; exact ⟨rfl, rfl, by omega, by omega, rfl, h2⟩
    · rw [h1]
      by_cases hi : fR b = fI
      · right; left; rw [if_pos hi, hi]; exact ⟨rfl, rfl, rfl, rfl⟩
      · rw [if_neg hi]
        by_cases h0 : fR b = 0
        · right; right; right; right; right; rw [if_pos h0, h0]; exact ⟨rfl, rfl, rfl, rfl, by omega⟩
        · right; right; right; left; rw [if_neg h0]; exact ⟨rfl, rfl, by omega, by omega, rfl⟩

theorem quo_zero : Ieee.double.div 4607182418800017408 0 = some 9218868437227405312 := by decide
theorem quo_minus : Ieee.double.div 4607182418800017408 9223372036854775808 = some 18442240474082181120 := by decide

theorem run_fl {P : Program} (op : BinOp) (t : TypeId) {x y r : Nat} (h : floatBits op .f64 x y = some r) (w : World) : (binOp op t (.float .f64 x) (.float .f64 y)).run P w = .ok (.float .f64 r) w := run_float_arith w op t .f64 x y r h
theorem ret_bool {a b : Bool} (h : a = b) : Ending.returned (.bool a) = .returned (.bool b) := by rw [h]
theorem minus_not {b : Nat} (hb : b < 2 ^ 64) (h : plc b ≠ 2 ∧ plc b ≠ 3) : (FloatKind.f64.format.order b 0 == some .eq) = false := by
  rcases plc_all hb with ⟨h1, _, h2⟩ | ⟨h1, _, h2, h3, h4⟩ | ⟨h1, _, h2, h3⟩ | ⟨h1, _, h2, h3, h4, h5⟩ | ⟨h1, _, h2, h3, h4⟩ | ⟨h1, _, h2, h3, h4⟩ | ⟨h1, _, h2, h3, h4⟩
  · have ho : FloatKind.f64.format.order b 0 = none := order_nan_l h2
    rw [ho]; rfl
  · rw [order_zero hb (by omega), if_neg (by have := fI_pos; omega), h3]; rfl
  · rw [order_zero hb (by omega), if_neg (by have := fI_pos; omega), h3]; rfl
  · rw [order_zero hb (by omega), if_neg (by omega), h4]; rfl
  · rw [order_zero hb (by omega), if_neg (by omega), h4]; rfl
  · omega
  · omega

set_option maxHeartbeats 400000 in
theorem minus_any (b : Nat) (w : World) (hb : b < 2 ^ 64) : Calls Try.prog 86 #[.float .f64 b] w fun e w' => e = .returned (.bool (decide (plc b = 2))) ∧ w = w' := by
  by_cases hc : plc b ≠ 2 ∧ plc b ≠ 3
  · have h := minus_not hb hc
    have H := hide (decide_eq_false hc.1)
    clear hc
    go_enter Try.func86, Try.ntmps86
    go_wp2
    go_ret
    exact ⟨ret_bool H.out.symm, rfl⟩
  · rcases plc_all hb with ⟨h1, _, h2⟩ | ⟨h1, _, h2, h3, h4⟩ | ⟨h1, _, h2, h3⟩ | ⟨h1, _, h2, h3, h4, h5⟩ | ⟨h1, _, h2, h3, h4⟩ | ⟨h1, _, h2, h3, h4⟩ | ⟨h1, _, h2, h3, h4⟩
    · omega
    · omega
    · omega
    · omega
    · omega
    · subst h4
      have ho : FloatKind.f64.format.order 0 0 = some .eq := by decide
      have hq := fun W => run_fl (P := Try.prog) .quo 25 quo_zero W
      have ho2 : FloatKind.f64.format.order 9218868437227405312 0 = some .gt := by decide
      have h1' : decide (plc 0 = 2) = false := by decide
      have H := hide h1'
      clear h1 h2 h3 h1' hc
      go_enter Try.func86, Try.ntmps86
      go_wp2
      go_ret
      exact ⟨ret_bool H.out.symm, rfl⟩
    · obtain rfl : b = 9223372036854775808 := h4
      have ho : FloatKind.f64.format.order 9223372036854775808 0 = some .eq := by decide
      have hq := fun W => run_fl (P := Try.prog) .quo 25 quo_minus W
      have ho2 : FloatKind.f64.format.order 18442240474082181120 0 = some .lt := by decide
      have h1' : decide (plc 9223372036854775808 = 2) = true := by decide
      have H := hide h1'
      clear h1 h2 h3 h1' hc
      go_enter Try.func86, Try.ntmps86
      go_wp2
      go_ret
      exact ⟨ret_bool H.out.symm, rfl⟩

/-- the order of floats by their kinds. -/
theorem less_by {a b : Nat} (ha : a < 2 ^ 64) (hb : b < 2 ^ 64) :
    (plc a < plc b ∧ posF a < posF b) ∨ (plc b < plc a ∧ posF b < posF a) ∨
    (plc a = plc b ∧ ((FloatKind.f64.format.order a b = some .lt ∧ posF a < posF b) ∨ (FloatKind.f64.format.order a b = some .gt ∧ posF b < posF a) ∨ (FloatKind.f64.format.order a b = some .eq ∧ posF a = posF b ∧ plc a ≠ 6) ∨ (FloatKind.f64.format.order a b = none ∧ posF a = posF b ∧ plc a = 6))) := by
  have hI := fI_pos
  by_cases hp : plc a = plc b
  · right; right
    refine ⟨hp, ?_⟩
    have hk : fR a ≤ fI → fR b ≤ fI → FloatKind.f64.format.order a b = some (compare (fK a) (fK b)) := order_key
    have hn : fI < fR a → FloatKind.f64.format.order a b = none := order_nan_l
    have ka : fK a = if fS a then -(fR a : Int) else (fR a : Int) := rfl
    have kb : fK b = if fS b then -(fR b : Int) else (fR b : Int) := rfl
    have key : ∀ x y : Int, FloatKind.f64.format.order a b = some (compare x y) → plc a ≠ 6 → (x < y → posF a < posF b) → (y < x → posF b < posF a) → (x = y → posF a = posF b) →
        ((FloatKind.f64.format.order a b = some .lt ∧ posF a < posF b) ∨ (FloatKind.f64.format.order a b = some .gt ∧ posF b < posF a) ∨ (FloatKind.f64.format.order a b = some .eq ∧ posF a = posF b ∧ plc a ≠ 6) ∨ (FloatKind.f64.format.order a b = none ∧ posF a = posF b ∧ plc a = 6)) := by
      intro x y ho h6 h1 h2 h3
      rcases Int.lt_trichotomy x y with h | h | h
      · left; exact ⟨by rw [ho, icmp_lt h], h1 h⟩
      · right; right; left; exact ⟨by rw [ho, icmp_eq h], h3 h, h6⟩
      · right; left; exact ⟨by rw [ho, icmp_gt h], h2 h⟩
    rcases plc_all ha with ⟨h1, g1, h2⟩ | ⟨h1, g1, h2, h3, h4⟩ | ⟨h1, g1, h2, h3⟩ | ⟨h1, g1, h2, h2', h3, h5⟩ | ⟨h1, g1, h2, h2', h3⟩ | ⟨h1, g1, h2, h3, h4⟩ | ⟨h1, g1, h2, h3, h4⟩ <;>
      rcases plc_all hb with ⟨h1', k1, k2⟩ | ⟨h1', k1, k2, k3, k4⟩ | ⟨h1', k1, k2, k3⟩ | ⟨h1', k1, k2, k2', k3, k5⟩ | ⟨h1', k1, k2, k2', k3⟩ | ⟨h1', k1, k2, k3, k4⟩ | ⟨h1', k1, k2, k3, k4⟩ <;>
      first
        | (exfalso; omega)
        | (right; right; right; exact ⟨hn h2, by omega, h1⟩)
        | (refine key _ _ (hk (by omega) (by omega)) (by omega) ?_ ?_ ?_ <;> (rw [ka, kb, h3, k3]; simp only [if_true, Bool.false_eq_true, if_false]; omega))
  · rcases plc_all ha with ⟨h1, g1, h2⟩ | ⟨h1, g1, h2, h3, h4⟩ | ⟨h1, g1, h2, h3⟩ | ⟨h1, g1, h2, h2', h3, h5⟩ | ⟨h1, g1, h2, h2', h3⟩ | ⟨h1, g1, h2, h3, h4⟩ | ⟨h1, g1, h2, h3, h4⟩ <;>
      rcases plc_all hb with ⟨h1', k1, k2⟩ | ⟨h1', k1, k2, k3, k4⟩ | ⟨h1', k1, k2, k3⟩ | ⟨h1', k1, k2, k2', k3, k5⟩ | ⟨h1', k1, k2, k2', k3⟩ | ⟨h1', k1, k2, k3, k4⟩ | ⟨h1', k1, k2, k3, k4⟩ <;>
      first
        | (exfalso; omega)
        | (left; constructor <;> omega)
        | (right; left; constructor <;> omega)
end Go.Proofs.Ytmbddengmheeeaa
