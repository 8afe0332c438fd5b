import Derived.Test.YtjppmalcaogpiaaWl
namespace Go.Proofs.Ytjppmalcaogpiaa
open Go.RowKit
attribute [local go_sem] ord_none_lt ord_none_gt ord_none_eq ord_none_ne ord_lt_lt ord_lt_gt ord_lt_eq ord_lt_ne ord_gt_lt ord_gt_gt ord_gt_eq ord_gt_ne ord_eq_lt ord_eq_gt ord_eq_eq ord_eq_ne store_fl unary_negF
set_option maxHeartbeats 1000000 in
theorem refclean_any (b : Nat) (w : World) (hb : b < 2 ^ 64) : Calls Try.prog 13 #[.float .f64 b] w fun e w' => e = .returned (.float .f64 (clF b)) ∧ w = w' := by
  have hg := gt_most hb
  have hI := fI_pos
  have hM := fMost_I
  have hM0 : fMost ≠ 0 := by decide
  rcases plc_all hb with ⟨h1, _, h2⟩ | ⟨h1, _, h2, h3, h4⟩ | ⟨h1, _, h2, h3⟩ | ⟨h1, _, h2, h3, h4, h5⟩ | ⟨h1, _, h2, h3, h4⟩ | ⟨h1, _, h2, h3, h4⟩ | ⟨h1, _, h2, h3, h4⟩
  · have e : infB false b = false := decide_eq_false (by omega)
    have ho : FloatKind.f64.format.order b 0 = none := order_nan_l h2
    rw [e] at hg
    have H : Hid (clF b = 0) := by refine hide ?_; unfold clF; rw [if_pos h2]
    clear h1 h2 e hI hM hM0 hb
    go_enter Try.func13, Try.ntmps13
    go_wp2
    go_ret
    exact ⟨ret_fl H.out.symm, rfl⟩
  · have e : infB false b = true := decide_eq_true ⟨h2, h3⟩
    rw [e] at hg
    have H : Hid (clF b = fMost) := by refine hide ?_; unfold clF; rw [if_neg (by omega), h3, if_neg (by decide)]; omega
    clear h1 h2 h3 h4 e hI hM hM0 hb
    go_enter Try.func13, Try.ntmps13
    go_wp2
    go_ret
    exact ⟨ret_fl (H.out.symm ▸ rfl), rfl⟩
  · have e : infB false b = false := decide_eq_false (by rw [h3]; rintro ⟨_, a⟩; cases a)
    have ho := order_zero hb (by omega)
    rw [if_neg (by omega), h3] at ho
    replace ho : FloatKind.f64.format.order b 0 = some .lt := ho
    rw [e] at hg
    have H : Hid (clF b = 0) := by refine hide ?_; unfold clF; rw [if_neg (by omega), h3, if_pos rfl]
    clear h1 h2 h3 e hI hM hM0 hb
    go_enter Try.func13, Try.ntmps13
    go_wp2
    go_ret
    exact ⟨ret_fl H.out.symm, rfl⟩
  · have e : infB false b = false := decide_eq_false (by omega)
    have ho := order_zero hb (by omega)
    rw [if_neg (by omega), h4] at ho
    replace ho : FloatKind.f64.format.order b 0 = some .gt := ho
    rw [e] at hg
    have H : Hid (clF b = b) := by refine hide ?_; unfold clF; rw [if_neg (by omega), h4, if_neg (by decide)]; omega
    clear h1 h2 h3 h4 h5 e hI hM hM0 hb
    go_enter Try.func13, Try.ntmps13
    go_wp2
    go_ret
    exact ⟨ret_fl H.out.symm, rfl⟩
  · have e : infB false b = false := decide_eq_false (by omega)
    have ho := order_zero hb (by omega)
    rw [if_neg (by omega), h4] at ho
    replace ho : FloatKind.f64.format.order b 0 = some .lt := ho
    rw [e] at hg
    have H : Hid (clF b = 0) := by refine hide ?_; unfold clF; rw [if_neg (by omega), h4, if_pos rfl]
    clear h1 h2 h3 h4 e hI hM hM0 hb
    go_enter Try.func13, Try.ntmps13
    go_wp2
    go_ret
    exact ⟨ret_fl H.out.symm, rfl⟩
  · have e : infB false b = false := decide_eq_false (by omega)
    have ho := order_zero hb (by omega)
    rw [if_pos h2] at ho
    rw [e] at hg
    have H : Hid (clF b = 0) := by refine hide ?_; unfold clF; rw [if_neg (by omega), h3, if_neg (by decide)]; omega
    clear h1 h2 h3 h4 e hI hM hM0 hb
    go_enter Try.func13, Try.ntmps13
    go_wp2
    go_ret
    exact ⟨ret_fl H.out.symm, rfl⟩
  · have e : infB false b = false := decide_eq_false (by omega)
    have ho := order_zero hb (by omega)
    rw [if_pos h2] at ho
    rw [e] at hg
    have H : Hid (clF b = 0) := by refine hide ?_; unfold clF; rw [if_neg (by omega), h3, if_pos rfl]
    clear h1 h2 h3 h4 e hI hM hM0 hb
    go_enter Try.func13, Try.ntmps13
    go_wp2
    go_ret
    exact ⟨ret_fl H.out.symm, rfl⟩

theorem clean_at {c : Nat} (b : Nat) (w : World) (hb : b < 2 ^ 64) (h : clF b = c) : Calls Try.prog 10 #[.float .f64 b] w fun e w' => e = .returned (.float .f64 c) ∧ Below w.heap.size w w' := by
  subst h; exact clean_any b w hb
theorem refclean_at {c : Nat} (b : Nat) (w : World) (hb : b < 2 ^ 64) (h : clF b = c) : Calls Try.prog 13 #[.float .f64 b] w fun e w' => e = .returned (.float .f64 c) ∧ w = w' := by
  subst h; exact refclean_any b w hb

theorem below_two {w w1 w2 : World} (h1 : Below w.heap.size w w1) (h2 : Below w1.heap.size w1 w2) : Below w.heap.size w w2 := h1.trans (h2.mono h1.size)

/-- the four ways of a part. -/
theorem part_ways (a b : Nat) : (clF a = 0 ∧ prtF a b = 0) ∨ (clF a ≠ 0 ∧ clF b = 0 ∧ prtF a b = 0) ∨ (clF a ≠ 0 ∧ clF b ≠ 0 ∧ clF b ≤ clF a ∧ prtF a b = fOne) ∨
    (clF a ≠ 0 ∧ clF b ≠ 0 ∧ clF a < clF b ∧ Ieee.double.div (clF a) (clF b) = some (prtF a b)) := by
  unfold prtF
  by_cases h1 : clF a = 0
  · left; exact ⟨h1, if_pos (Or.inl h1)⟩
  · right
    by_cases h2 : clF b = 0
    · left; exact ⟨h1, h2, if_pos (Or.inr h2)⟩
    · right
      have hn : ¬ (clF a = 0 ∨ clF b = 0) := by omega
      by_cases h3 : clF b ≤ clF a
      · left; exact ⟨h1, h2, h3, by rw [if_neg hn, if_pos h3]⟩
      · right
        obtain ⟨R, hR, _⟩ := div_pos (clF_lt a) (by omega) (clF_lt b) (by omega)
        exact ⟨h1, h2, by omega, by rw [if_neg hn, if_neg h3, hR]; rfl⟩

theorem order_0 {x : Nat} (hx : x ≤ fI) : (x = 0 → FloatKind.f64.format.order x 0 = some .eq) ∧ (x ≠ 0 → FloatKind.f64.format.order x 0 = some .gt) :=
  ⟨fun h => order_eq hx h, fun h => order_gt hx (by omega)⟩

set_option maxHeartbeats 1000000 in
theorem part_any (a b : Nat) (w : World) (ha : a < 2 ^ 64) (hb : b < 2 ^ 64) : Calls Try.prog 11 #[.float .f64 a, .float .f64 b] w fun e w' => e = .returned (.float .f64 (prtF a b)) ∧ Below w.heap.size w w' := by
  have hW := part_ways a b
  have la := Nat.le_of_lt (clF_lt a)
  have lb := Nat.le_of_lt (clF_lt b)
  obtain ⟨r, hr⟩ : ∃ r, prtF a b = r := ⟨_, rfl⟩
  obtain ⟨c, hc⟩ : ∃ c, clF a = c := ⟨_, rfl⟩
  obtain ⟨d, hd⟩ : ∃ d, clF b = d := ⟨_, rfl⟩
  have CA := hide (fun w => clean_at a w ha hc)
  have CB := hide (fun w => clean_at b w hb hd)
  rw [hc, hd, hr] at hW
  rw [hc] at la
  rw [hd] at lb
  rw [hr]
  obtain ⟨oa1, oa2⟩ := order_0 la
  obtain ⟨ob1, ob2⟩ := order_0 lb
  clear hr hc hd ha hb
  rcases hW with ⟨h1, rfl⟩ | ⟨h1, h2, rfl⟩ | ⟨h1, h2, h3, rfl⟩ | ⟨h1, h2, h3, h4⟩
  · have o1 := oa1 h1
    clear oa1 oa2 ob1 ob2 la lb h1
    go_enter Try.func11, Try.ntmps11
    go_wp2_with (first | ((with_reducible refine (CA.out _).mono ?_); rintro e w1 ⟨rfl, B1⟩) | ((with_reducible refine (CB.out _).mono ?_); rintro e w2 ⟨rfl, B2⟩) | fail)
    go_ret
    exact ⟨rfl, below_two B1 B2⟩
  · have o1 := oa2 h1
    have o2 := ob1 h2
    clear oa1 oa2 ob1 ob2 la lb h1 h2
    go_enter Try.func11, Try.ntmps11
    go_wp2_with (first | ((with_reducible refine (CA.out _).mono ?_); rintro e w1 ⟨rfl, B1⟩) | ((with_reducible refine (CB.out _).mono ?_); rintro e w2 ⟨rfl, B2⟩) | fail)
    go_ret
    exact ⟨rfl, below_two B1 B2⟩
  · have o1 := oa2 h1
    have o2 := ob2 h2
    have o3 : FloatKind.f64.format.order c d = some .gt ∨ FloatKind.f64.format.order c d = some .eq := by
      rcases Nat.lt_or_eq_of_le h3 with h | h
      · left; exact order_gt la h
      · right; exact order_eq la h.symm
    clear oa1 oa2 ob1 ob2 la lb h1 h2 h3
    rcases o3 with o3 | o3
    all_goals
      go_enter Try.func11, Try.ntmps11
      go_wp2_with (first | ((with_reducible refine (CA.out _).mono ?_); rintro e w1 ⟨rfl, B1⟩) | ((with_reducible refine (CB.out _).mono ?_); rintro e w2 ⟨rfl, B2⟩) | fail)
      go_ret
      exact ⟨rfl, below_two B1 B2⟩
  · have o1 := oa2 h1
    have o2 := ob2 h2
    have o3 : FloatKind.f64.format.order c d = some .lt := order_lt lb h3
    have o4 := fun W => run_fl (P := Try.prog) .quo 22 h4 W
    clear oa1 oa2 ob1 ob2 la lb h1 h2 h3 h4
    go_enter Try.func11, Try.ntmps11
    go_wp2_with (first | ((with_reducible refine (CA.out _).mono ?_); rintro e w1 ⟨rfl, B1⟩) | ((with_reducible refine (CB.out _).mono ?_); rintro e w2 ⟨rfl, B2⟩) | fail)
    go_ret
    exact ⟨rfl, below_two B1 B2⟩
set_option maxHeartbeats 1000000 in
theorem refpart_any (a b : Nat) (w : World) (ha : a < 2 ^ 64) (hb : b < 2 ^ 64) : Calls Try.prog 14 #[.float .f64 a, .float .f64 b] w fun e w' => e = .returned (.float .f64 (prtF a b)) ∧ w = w' := by
  have hW := part_ways a b
  have la := Nat.le_of_lt (clF_lt a)
  have lb := Nat.le_of_lt (clF_lt b)
  obtain ⟨r, hr⟩ : ∃ r, prtF a b = r := ⟨_, rfl⟩
  obtain ⟨c, hc⟩ : ∃ c, clF a = c := ⟨_, rfl⟩
  obtain ⟨d, hd⟩ : ∃ d, clF b = d := ⟨_, rfl⟩
  have CA := hide (fun w => refclean_at a w ha hc)
  have CB := hide (fun w => refclean_at b w hb hd)
  rw [hc, hd, hr] at hW
  rw [hc] at la
  rw [hd] at lb
  rw [hr]
  obtain ⟨oa1, oa2⟩ := order_0 la
  obtain ⟨ob1, ob2⟩ := order_0 lb
  clear hr hc hd ha hb
  rcases hW with ⟨h1, rfl⟩ | ⟨h1, h2, rfl⟩ | ⟨h1, h2, h3, rfl⟩ | ⟨h1, h2, h3, h4⟩
  · have o1 := oa1 h1
    clear oa1 oa2 ob1 ob2 la lb h1
    go_enter Try.func14, Try.ntmps14
    go_wp2_with (first | ((with_reducible refine (CA.out _).mono ?_); rintro e w1 ⟨rfl, rfl⟩) | ((with_reducible refine (CB.out _).mono ?_); rintro e w2 ⟨rfl, rfl⟩) | fail)
    go_ret
    exact ⟨rfl, rfl⟩
  · have o1 := oa2 h1
    have o2 := ob1 h2
    clear oa1 oa2 ob1 ob2 la lb h1 h2
    go_enter Try.func14, Try.ntmps14
    go_wp2_with (first | ((with_reducible refine (CA.out _).mono ?_); rintro e w1 ⟨rfl, rfl⟩) | ((with_reducible refine (CB.out _).mono ?_); rintro e w2 ⟨rfl, rfl⟩) | fail)
    go_ret
    exact ⟨rfl, rfl⟩
  · have o1 := oa2 h1
    have o2 := ob2 h2
    have o3 : FloatKind.f64.format.order c d = some .gt ∨ FloatKind.f64.format.order c d = some .eq := by
      rcases Nat.lt_or_eq_of_le h3 with h | h
      · left; exact order_gt la h
      · right; exact order_eq la h.symm
    clear oa1 oa2 ob1 ob2 la lb h1 h2 h3
    rcases o3 with o3 | o3
    all_goals
      go_enter Try.func14, Try.ntmps14
      go_wp2_with (first | ((with_reducible refine (CA.out _).mono ?_); rintro e w1 ⟨rfl, rfl⟩) | ((with_reducible refine (CB.out _).mono ?_); rintro e w2 ⟨rfl, rfl⟩) | fail)
      go_ret
      exact ⟨rfl, rfl⟩
  · have o1 := oa2 h1
    have o2 := ob2 h2
    have o3 : FloatKind.f64.format.order c d = some .lt := order_lt lb h3
    have o4 := fun W => run_fl (P := Try.prog) .quo 22 h4 W
    clear oa1 oa2 ob1 ob2 la lb h1 h2 h3 h4
    go_enter Try.func14, Try.ntmps14
    go_wp2_with (first | ((with_reducible refine (CA.out _).mono ?_); rintro e w1 ⟨rfl, rfl⟩) | ((with_reducible refine (CB.out _).mono ?_); rintro e w2 ⟨rfl, rfl⟩) | fail)
    go_ret
    exact ⟨rfl, rfl⟩

set_option maxHeartbeats 400000 in
theorem minus_law (w : World) : Calls Try.prog 32 #[] w fun e w' => e = .returned (.float .f64 9223372036854775808) ∧ w = w' := by
  have h : Op.negFloat .f64 0 = 9223372036854775808 := by decide
  go_enter Try.func32, Try.ntmps32
  go_wp2
  go_ret
  exact ⟨rfl, rfl⟩
theorem quo_nan : Ieee.double.div 0 0 = none := by decide
theorem run_nan {P : Program} (t : TypeId) {x y : Nat} (h : Ieee.double.div x y = none) (w : World) : (binOp .quo t (.float .f64 x) (.float .f64 y)).run P w = .ok (.float .f64 ((Question.nanBits .f64 x y).cut (w.tape w.drawn (.nanBits .f64 x y)))) w.drew := by
  have h' : FloatKind.f64.format.div x y = none := h
  simp [binOp, Op.floatArith, h', Question.forced]
theorem cut_nan (x y t : Nat) : (Question.nanBits .f64 x y).cut t < 2 ^ 64 ∧ fI < fR ((Question.nanBits .f64 x y).cut t) := by
  have e : (Question.nanBits .f64 x y).cut t = (t % 2) * 2 ^ 63 + 0x7ff0000000000000 + 1 + (t / 2) % (2 ^ 52 - 1) := rfl
  rw [e, fI_val]
  unfold fR
  have h1 : t % 2 < 2 := Nat.mod_lt _ (by omega)
  have h2 : t / 2 % (2 ^ 52 - 1) < 2 ^ 52 - 1 := Nat.mod_lt _ (by omega)
  generalize t % 2 = s at h1 ⊢
  generalize t / 2 % (2 ^ 52 - 1) = m at h2 ⊢
  rcases (show s = 0 ∨ s = 1 by omega) with rfl | rfl <;> omega
set_option maxHeartbeats 400000 in
theorem nan_law (w : World) : Calls Try.prog 31 #[] w fun e w' => ∃ b, e = .returned (.float .f64 b) ∧ b < 2 ^ 64 ∧ fI < fR b ∧ w' = w.drew := by
  have hq := run_nan (P := Try.prog) 22 quo_nan w
  have hc := cut_nan 0 0 (w.tape w.drawn (.nanBits .f64 0 0))
  generalize (Question.nanBits .f64 0 0).cut (w.tape w.drawn (.nanBits .f64 0 0)) = b at hq hc
  have HC := hide hc
  clear hc
  go_enter Try.func31, Try.ntmps31
  go_wp2
  go_ret
  exact ⟨b, rfl, HC.out.1, HC.out.2, rfl⟩
end Go.Proofs.Ytjppmalcaogpiaa
