import Derived.Test.YtmbddengmheeeaaWf
namespace Go.Proofs.Ytmbddengmheeeaa
open Go.RowKit
attribute [local go_sem] ord_none_lt ord_none_gt ord_none_eq ord_none_ne ord_lt_lt ord_lt_gt ord_lt_eq ord_lt_ne ord_gt_lt ord_gt_gt ord_gt_eq ord_gt_ne ord_eq_lt ord_eq_gt ord_eq_eq ord_eq_ne
theorem store_fl (P : Program) (w : World) (a : Addr) (m : Mode) (k : FloatKind) (b : Nat) : (store a (.float k b) m).run P w = stored P w a (.float k b) m := run_store P w a _ m rfl
attribute [local go_sem] store_fl

theorem plc_cases {b : Nat} (hb : b < 2 ^ 64) :
    (plc b = 6 ∧ clF b = 0) ∨ (plc b = 0 ∧ clF b = 0) ∨ (plc b = 1 ∧ clF b = 0) ∨ (plc b = 2 ∧ clF b = 0) ∨ (plc b = 3 ∧ clF b = 0) ∨ (plc b = 4 ∧ clF b = b) ∨ (plc b = 5 ∧ clF b = fMost) := by
  have hI := fMost_I
  unfold plc clF
  by_cases hn : fI < fR b
  · left; rw [if_pos hn, if_pos hn]; exact ⟨rfl, rfl⟩
  · right
    rw [if_neg hn, if_neg hn]
    rcases word_split hb with ⟨h1, h2, h3⟩ | ⟨h1, h2⟩
    · rw [h1]
      by_cases hi : fR b = fI
      · rw [if_pos hi]; right; right; right; right; right; exact ⟨rfl, by rw [if_neg (by decide)]; omega⟩
      · rw [if_neg hi]
        by_cases h0 : fR b = 0
        · rw [if_pos h0]; right; right; right; left; exact ⟨rfl, by rw [if_neg (by decide)]; omega⟩
        · rw [if_neg h0]; right; right; right; right; left; exact ⟨rfl, by rw [if_neg (by decide)]; omega⟩
    · rw [h1]
      by_cases hi : fR b = fI
      · rw [if_pos hi]; left; exact ⟨rfl, rfl⟩
      · rw [if_neg hi]
        by_cases h0 : fR b = 0
        · rw [if_pos h0]; right; right; left; exact ⟨rfl, rfl⟩
        · rw [if_neg h0]; right; left; exact ⟨rfl, rfl⟩

theorem place_at {n : Int} (b : Nat) (w : World) (hb : b < 2 ^ 64) (h : (plc b : Int) = n) : Calls Try.prog 93 #[.float .f64 b] w fun e w' => e = .returned (.int .i64 n) ∧ w = w' := by
  subst h; exact place_any b w hb
theorem ret_fl {a b : Nat} (h : a = b) : Ending.returned (.float .f64 a) = .returned (.float .f64 b) := by rw [h]

set_option maxHeartbeats 1000000 in
theorem clean_any (b : Nat) (w : World) (hb : b < 2 ^ 64) : Calls Try.prog 75 #[.float .f64 b] w fun e w' => e = .returned (.float .f64 (clF b)) ∧ Below w.heap.size w w' := by
  rcases plc_cases hb with ⟨h1, h2⟩ | ⟨h1, h2⟩ | ⟨h1, h2⟩ | ⟨h1, h2⟩ | ⟨h1, h2⟩ | ⟨h1, h2⟩ | ⟨h1, h2⟩
  all_goals
    have H1 := hide h1
    have H2 := hide h2
    clear h1 h2
    go_enter Try.func75, Try.ntmps75
    go_wp2_with (first | ((with_reducible refine (place_at (n := 0) _ _ hb (by have := H1.out; omega)).mono ?_); rintro e w' ⟨rfl, rfl⟩) | ((with_reducible refine (place_at (n := 1) _ _ hb (by have := H1.out; omega)).mono ?_); rintro e w' ⟨rfl, rfl⟩) | ((with_reducible refine (place_at (n := 2) _ _ hb (by have := H1.out; omega)).mono ?_); rintro e w' ⟨rfl, rfl⟩) | ((with_reducible refine (place_at (n := 3) _ _ hb (by have := H1.out; omega)).mono ?_); rintro e w' ⟨rfl, rfl⟩) | ((with_reducible refine (place_at (n := 4) _ _ hb (by have := H1.out; omega)).mono ?_); rintro e w' ⟨rfl, rfl⟩) | ((with_reducible refine (place_at (n := 5) _ _ hb (by have := H1.out; omega)).mono ?_); rintro e w' ⟨rfl, rfl⟩) | ((with_reducible refine (place_at (n := 6) _ _ hb (by have := H1.out; omega)).mono ?_); rintro e w' ⟨rfl, rfl⟩) | fail)
    go_ret
    exact ⟨ret_fl (by rw [H2.out]; try rfl), (Below.refl _ _).alloc (Nat.le_refl _) _⟩
end Go.Proofs.Ytmbddengmheeeaa
