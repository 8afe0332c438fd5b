import Derived.Test.YtmbddengmheeeaaBase
import Derived.Test.YtmbddengmheeeaaWm
import Derived.WalkLawsBesides
namespace Go.Proofs.Ytmbddengmheeeaa
open Go.RowKit
attribute [local go_sem] ord_none_lt ord_none_gt ord_none_eq ord_none_ne ord_lt_lt ord_lt_gt ord_lt_eq ord_lt_ne ord_gt_lt ord_gt_gt ord_gt_eq ord_gt_ne ord_eq_lt ord_eq_gt ord_eq_eq ord_eq_ne
set_option maxHeartbeats 400000 in
theorem isnan_any (b : Nat) (w : World) : Calls Try.prog 104 #[.float .f64 b] w fun e w' => e = .returned (.bool (nanB b)) ∧ w = w' := by
  have H : Hid ((FloatKind.f64.format.order b b != some .eq) = nanB b) := by
    by_cases h : fI < fR b
    · have ho : FloatKind.f64.format.order b b = none := order_nan_l h
      rw [ho]; exact (decide_eq_true h).symm
    · have ho : FloatKind.f64.format.order b b = some (compare (fK b) (fK b)) := order_key (by omega) (by omega)
      rw [ho, icmp_eq rfl]; exact (decide_eq_false h).symm
  go_enter Try.func104, Try.ntmps104
  go_wp2
  go_ret
  exact ⟨congrArg (fun x => Ending.returned (.bool x)) H.out, rfl⟩

theorem call_bits (b : Nat) (w : World) : (callFunc 100 #[.float .f64 b]).run Try.prog w = .ok (.value (.int .u64 (b : Int))) w := by
  rw [run_callFunc_extern Try.func100 (by kernel_rfl) (by kernel_rfl) (by kernel_rfl) (e := Extern.MathFloatBits.float64bits) (by kernel_rfl)]; rfl
theorem unary_negF (k : FloatKind) (b : Nat) : Op.unary .neg (.float k b) = pure (.float k (Op.negFloat k b)) := rfl
attribute [local go_sem] call_bits unary_negF

set_option maxHeartbeats 400000 in
theorem signbit_any (b : Nat) (w : World) (hb : b < 2 ^ 64) : Calls Try.prog 106 #[.float .f64 b] w fun e w' => e = .returned (.bool (fS b)) ∧ w = w' := by
  have H : Hid (decide (RowKit.wrap64 (b : Int) < 0) = fS b) := by
    rcases word_split hb with ⟨h1, h2, h3⟩ | ⟨h1, h2⟩
    · rw [IntWalk.wrap64_in _ (by omega), h1]; exact decide_eq_false (by omega)
    · rw [h1, show RowKit.wrap64 (b : Int) = (b : Int) - 18446744073709551616 by unfold RowKit.wrap64; have := fR_lt b; omega]
      have := fR_lt b
      exact decide_eq_true (by omega)
  go_enter Try.func106, Try.ntmps106
  go_wp2
  go_ret
  exact ⟨congrArg (fun x => Ending.returned (.bool x)) H.out, rfl⟩

theorem fMost_I : fMost + 1 = fI := by decide
theorem lit_most : fMost = 9218868437227405311 := rfl
/-- 'IsInf' above and below 0. -/
def infB (s : Bool) (b : Nat) : Bool := decide (fR b = fI ∧ fS b = s)
theorem gt_most {b : Nat} (hb : b < 2 ^ 64) : (FloatKind.f64.format.order b 9218868437227405311 == some .gt) = infB false b := by
  rw [← lit_most]
  by_cases hn : fI < fR b
  · have ho : FloatKind.f64.format.order b fMost = none := order_nan_l hn
    rw [ho]; exact (decide_eq_false (by omega)).symm
  · have hm := pos_rs (x := fMost) (by decide)
    have ho : FloatKind.f64.format.order b fMost = some (compare (fK b) (fK fMost)) := order_key (by omega) (by rw [hm.1]; decide)
    have hk := fK_pos (x := fMost) (by decide)
    have hI := fMost_I
    rw [ho, hk]
    unfold infB
    rcases word_split hb with ⟨h1, h2, h3⟩ | ⟨h1, h2⟩
    · have e : fK b = fR b := by unfold fK; rw [h1]; rfl
      rw [e, h1]
      by_cases h : fR b = fI
      · rw [icmp_gt (by omega)]; exact (decide_eq_true ⟨h, rfl⟩).symm
      · rcases Nat.lt_or_eq_of_le (show fR b ≤ fMost by omega) with h' | h'
        · rw [icmp_lt (by omega)]; exact (decide_eq_false (by rintro ⟨a, _⟩; exact h a)).symm
        · rw [icmp_eq (by omega)]; exact (decide_eq_false (by rintro ⟨a, _⟩; exact h a)).symm
    · have e : fK b = -(fR b : Int) := by unfold fK; rw [h1]; rfl
      have h0 : (0 : Int) < fMost := by decide
      rw [e, icmp_lt (by omega), h1]; exact (decide_eq_false (by rintro ⟨_, a⟩; cases a)).symm
theorem neg_rs {b : Nat} (hb : b < 2 ^ 64) : fR (Op.negFloat .f64 b) = fR b ∧ fS (Op.negFloat .f64 b) = !fS b ∧ Op.negFloat .f64 b < 2 ^ 64 := by
  rcases word_split hb with ⟨h1, h2, h3⟩ | ⟨h1, h2⟩
  · rw [neg_low h3, h1]
    have e1 : fR (2 ^ 63 + b) = b := by unfold fR; omega
    have e2 : fS (2 ^ 63 + b) = true := by unfold fS; rw [show (2 ^ 63 + b) / 2 ^ 63 = 1 by omega]; rfl
    exact ⟨by rw [e1]; exact h2, e2, by omega⟩
  · have hl := fR_lt b
    obtain ⟨c, hc⟩ : ∃ c, c = fR b := ⟨_, rfl⟩
    rw [← hc] at h2 hl ⊢
    rw [h1]
    subst h2
    rw [neg_high hl]
    exact ⟨fR_of hl, fS_of hl, by omega⟩

set_option maxHeartbeats 400000 in
theorem isinf_pos (b : Nat) (w : World) (hb : b < 2 ^ 64) : Calls Try.prog 105 #[.float .f64 b, .int .i64 1] w fun e w' => e = .returned (.bool (infB false b)) ∧ w = w' := by
  have H := hide (gt_most hb)
  go_enter Try.func105, Try.ntmps105
  go_wp2
  go_ret
  exact ⟨congrArg (fun x => Ending.returned (.bool x)) H.out, rfl⟩
set_option maxHeartbeats 400000 in
theorem isinf_neg (b : Nat) (w : World) (hb : b < 2 ^ 64) : Calls Try.prog 105 #[.float .f64 b, .int .i64 (-1)] w fun e w' => e = .returned (.bool (infB true b)) ∧ w = w' := by
  have hn := neg_rs hb
  have H : Hid ((FloatKind.f64.format.order (Op.negFloat .f64 b) 9218868437227405311 == some .gt) = infB true b) := by
    refine (gt_most hn.2.2).trans ?_
    unfold infB
    rw [hn.1, hn.2.1]
    cases fS b <;> simp
  clear hn
  go_enter Try.func105, Try.ntmps105
  go_wp2
  go_ret
  exact ⟨congrArg (fun x => Ending.returned (.bool x)) H.out, rfl⟩

/-- a float that is no NaN and no infinity against 0. -/
theorem order_zero {b : Nat} (hb : b < 2 ^ 64) (h : fR b ≤ fI) : FloatKind.f64.format.order b 0 = some (if fR b = 0 then .eq else if fS b then .lt else .gt) := by
  have ho : FloatKind.f64.format.order b 0 = some (compare (fK b) (fK 0)) := order_key h (by rw [fR_of (by omega)]; exact Nat.zero_le _)
  have hk := fK_pos (x := 0) (Nat.zero_le _)
  rw [ho, hk]
  rcases word_split hb with ⟨h1, h2, h3⟩ | ⟨h1, h2⟩
  · have e : fK b = fR b := by unfold fK; rw [h1]; rfl
    rw [e, h1]
    by_cases h0 : fR b = 0
    · rw [if_pos h0, icmp_eq (by omega)]
    · rw [if_neg h0, icmp_gt (by omega)]; rfl
  · have e : fK b = -(fR b : Int) := by unfold fK; rw [h1]; rfl
    rw [e, h1]
    by_cases h0 : fR b = 0
    · rw [if_pos h0, icmp_eq (by omega)]
    · rw [if_neg h0, icmp_lt (by omega)]; rfl

theorem fI_pos : 0 < fI := by decide
theorem ret_plc {b n : Nat} (h : plc b = n) : Ending.returned (.int .i64 (n : Int)) = .returned (.int .i64 (plc b : Nat)) := by rw [h]

set_option maxHeartbeats 1000000 in
theorem place_any (b : Nat) (w : World) (hb : b < 2 ^ 64) : Calls Try.prog 93 #[.float .f64 b] w fun e w' => e = .returned (.int .i64 (plc b : Nat)) ∧ w = w' := by
  have hI := fI_pos
  by_cases hn : fI < fR b
  · have h1 : nanB b = true := decide_eq_true hn
    have H : Hid (plc b = 6) := by unfold plc; rw [if_pos hn]; exact rfl
    clear hn hI
    go_enter Try.func93, Try.ntmps93
    go_wp2_with (first | ((with_reducible refine (isnan_any _ _).mono ?_); rintro e w' ⟨rfl, rfl⟩) | fail)
    go_ret
    exact ⟨ret_plc H.out, rfl⟩
  · have h1 : nanB b = false := decide_eq_false hn
    by_cases hi : fR b = fI
    · cases hs : fS b
      · have h2 : infB true b = false := decide_eq_false (by rw [hs]; rintro ⟨_, a⟩; cases a)
        have h3 : infB false b = true := decide_eq_true ⟨hi, hs⟩
        have H : Hid (plc b = 5) := by unfold plc; rw [if_neg hn, if_pos hi, hs]; exact rfl
        clear hn hI hi hs
        go_enter Try.func93, Try.ntmps93
        go_wp2_with (first | ((with_reducible refine (isnan_any _ _).mono ?_); rintro e w' ⟨rfl, rfl⟩) | ((with_reducible refine (isinf_neg _ _ hb).mono ?_); rintro e w' ⟨rfl, rfl⟩) | ((with_reducible refine (isinf_pos _ _ hb).mono ?_); rintro e w' ⟨rfl, rfl⟩) | fail)
        go_ret
        exact ⟨ret_plc H.out, rfl⟩
      · have h2 : infB true b = true := decide_eq_true ⟨hi, hs⟩
        have H : Hid (plc b = 0) := by unfold plc; rw [if_neg hn, if_pos hi, hs]; exact rfl
        clear hn hI hi hs
        go_enter Try.func93, Try.ntmps93
        go_wp2_with (first | ((with_reducible refine (isnan_any _ _).mono ?_); rintro e w' ⟨rfl, rfl⟩) | ((with_reducible refine (isinf_neg _ _ hb).mono ?_); rintro e w' ⟨rfl, rfl⟩) | fail)
        go_ret
        exact ⟨ret_plc H.out, rfl⟩
    · have h2 : infB true b = false := decide_eq_false (by rintro ⟨a, _⟩; exact hi a)
      have h3 : infB false b = false := decide_eq_false (by rintro ⟨a, _⟩; exact hi a)
      have ho := order_zero hb (by omega : fR b ≤ fI)
      by_cases h0 : fR b = 0
      · rw [if_pos h0] at ho
        cases hs : fS b
        · have H : Hid (plc b = 3) := by unfold plc; rw [if_neg hn, if_neg hi, if_pos h0, hs]; exact rfl
          clear hn hI hi h0
          go_enter Try.func93, Try.ntmps93
          go_wp2_with (first | ((with_reducible refine (isnan_any _ _).mono ?_); rintro e w' ⟨rfl, rfl⟩) | ((with_reducible refine (isinf_neg _ _ hb).mono ?_); rintro e w' ⟨rfl, rfl⟩) | ((with_reducible refine (isinf_pos _ _ hb).mono ?_); rintro e w' ⟨rfl, rfl⟩) | ((with_reducible refine (signbit_any _ _ hb).mono ?_); rintro e w' ⟨rfl, rfl⟩) | fail)
          go_ret
          exact ⟨ret_plc H.out, rfl⟩
        · have H : Hid (plc b = 2) := by unfold plc; rw [if_neg hn, if_neg hi, if_pos h0, hs]; exact rfl
          clear hn hI hi h0
          go_enter Try.func93, Try.ntmps93
          go_wp2_with (first | ((with_reducible refine (isnan_any _ _).mono ?_); rintro e w' ⟨rfl, rfl⟩) | ((with_reducible refine (isinf_neg _ _ hb).mono ?_); rintro e w' ⟨rfl, rfl⟩) | ((with_reducible refine (isinf_pos _ _ hb).mono ?_); rintro e w' ⟨rfl, rfl⟩) | ((with_reducible refine (signbit_any _ _ hb).mono ?_); rintro e w' ⟨rfl, rfl⟩) | fail)
          go_ret
          exact ⟨ret_plc H.out, rfl⟩
      · rw [if_neg h0] at ho
        cases hs : fS b
        · have H : Hid (plc b = 4) := by unfold plc; rw [if_neg hn, if_neg hi, if_neg h0, hs]; exact rfl
          rw [hs] at ho
          replace ho : FloatKind.f64.format.order b 0 = some .gt := ho
          clear hn hI hi h0 hs
          go_enter Try.func93, Try.ntmps93
          go_wp2_with (first | ((with_reducible refine (isnan_any _ _).mono ?_); rintro e w' ⟨rfl, rfl⟩) | ((with_reducible refine (isinf_neg _ _ hb).mono ?_); rintro e w' ⟨rfl, rfl⟩) | ((with_reducible refine (isinf_pos _ _ hb).mono ?_); rintro e w' ⟨rfl, rfl⟩) | fail)
          go_ret
          exact ⟨ret_plc H.out, rfl⟩
        · have H : Hid (plc b = 1) := by unfold plc; rw [if_neg hn, if_neg hi, if_neg h0, hs]; exact rfl
          rw [hs] at ho
          replace ho : FloatKind.f64.format.order b 0 = some .lt := ho
          clear hn hI hi h0 hs
          go_enter Try.func93, Try.ntmps93
          go_wp2_with (first | ((with_reducible refine (isnan_any _ _).mono ?_); rintro e w' ⟨rfl, rfl⟩) | ((with_reducible refine (isinf_neg _ _ hb).mono ?_); rintro e w' ⟨rfl, rfl⟩) | ((with_reducible refine (isinf_pos _ _ hb).mono ?_); rintro e w' ⟨rfl, rfl⟩) | fail)
          go_ret
          exact ⟨ret_plc H.out, rfl⟩
end Go.Proofs.Ytmbddengmheeeaa
