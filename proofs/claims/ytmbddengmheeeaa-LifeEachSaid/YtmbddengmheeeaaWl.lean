import Derived.Test.YtmbddengmheeeaaWo
namespace Go.Proofs.Ytmbddengmheeeaa
open Go.RowKit
attribute [local go_sem] ord_none_lt ord_none_gt ord_none_eq ord_none_ne ord_lt_lt ord_lt_gt ord_lt_eq ord_lt_ne ord_gt_lt ord_gt_gt ord_gt_eq ord_gt_ne ord_eq_lt ord_eq_gt ord_eq_eq ord_eq_ne store_fl unary_negF
set_option maxHeartbeats 400000 in
theorem lessW_any (a b : Nat) (w : World) (ha : a < 2 ^ 64) (hb : b < 2 ^ 64) : Calls Try.prog 77 #[.float .f64 a, .float .f64 b] w fun e w' => e = .returned (.bool (lessB a b)) ∧ w = w' := by
  have hL := less_by ha hb
  have H : Hid (∀ x, (x = true ↔ posF a < posF b) → Ending.returned (.bool x) = .returned (.bool (lessB a b))) := fun x hx => ret_bool (by unfold lessB; rw [Bool.eq_iff_iff, hx, decide_eq_true_eq])
  obtain ⟨p, hp⟩ : ∃ p : Int, (plc a : Int) = p := ⟨_, rfl⟩
  obtain ⟨q, hq⟩ : ∃ q : Int, (plc b : Int) = q := ⟨_, rfl⟩
  have CA := hide (fun w => place_at a w ha hp)
  have CB := hide (fun w => place_at b w hb hq)
  rcases hL with ⟨h1, h2⟩ | ⟨h1, h2⟩ | ⟨h1, h⟩
  · have d1 : decide (p < q) = true := decide_eq_true (by omega)
    have H2 := H.out true ⟨fun _ => h2, fun _ => rfl⟩
    replace H := hide H2
    clear h1 h2 H2 hp hq ha hb
    go_enter Try.func77, Try.ntmps77
    go_wp2_with (first | ((with_reducible refine (CA.out _).mono ?_); rintro e w' ⟨rfl, rfl⟩) | ((with_reducible refine (CB.out _).mono ?_); rintro e w' ⟨rfl, rfl⟩) | fail)
    go_ret
    exact ⟨H.out, rfl⟩
  · have d1 : decide (p < q) = false := decide_eq_false (by omega)
    have d2 : (p == q) = false := by simp; omega
    have H2 := H.out false ⟨fun h => (by cases h), fun h => (by omega)⟩
    replace H := hide H2
    clear h1 h2 H2 hp hq ha hb
    go_enter Try.func77, Try.ntmps77
    go_wp2_with (first | ((with_reducible refine (CA.out _).mono ?_); rintro e w' ⟨rfl, rfl⟩) | ((with_reducible refine (CB.out _).mono ?_); rintro e w' ⟨rfl, rfl⟩) | fail)
    go_ret
    exact ⟨H.out, rfl⟩
  · obtain rfl : p = q := by omega
    have H2 := H.out (FloatKind.f64.format.order a b == some .lt) (by rcases h with ⟨h1, h2⟩ | ⟨h1, h2⟩ | ⟨h1, h2, _⟩ | ⟨h1, h2, _⟩ <;> rw [h1] <;> simp <;> omega)
    replace H := hide H2
    clear h h1 H2 hp hq ha hb
    go_enter Try.func77, Try.ntmps77
    go_wp2_with (first | ((with_reducible refine (CA.out _).mono ?_); rintro e w' ⟨rfl, rfl⟩) | ((with_reducible refine (CB.out _).mono ?_); rintro e w' ⟨rfl, rfl⟩) | fail)
    go_ret
    exact ⟨H.out, rfl⟩

theorem less_same (a b : Nat) : (lessB a b = true ∧ lessB b a = false ∧ sameB a b = false) ∨ (lessB a b = false ∧ lessB b a = true ∧ sameB a b = false) ∨ (lessB a b = false ∧ lessB b a = false ∧ sameB a b = true) := by
  unfold lessB sameB
  rcases Int.lt_trichotomy (posF a) (posF b) with h | h | h
  · left; exact ⟨decide_eq_true h, decide_eq_false (by omega), decide_eq_false (by omega)⟩
  · right; right; exact ⟨decide_eq_false (by omega), decide_eq_false (by omega), decide_eq_true h⟩
  · right; left; exact ⟨decide_eq_false (by omega), decide_eq_true h, decide_eq_false (by omega)⟩

set_option maxHeartbeats 400000 in
theorem sameW_any (a b : Nat) (w : World) (ha : a < 2 ^ 64) (hb : b < 2 ^ 64) : Calls Try.prog 74 #[.float .f64 a, .float .f64 b] w fun e w' => e = .returned (.bool (sameB a b)) ∧ w = w' := by
  rcases less_same a b with ⟨h1, h2, h3⟩ | ⟨h1, h2, h3⟩ | ⟨h1, h2, h3⟩
  all_goals
    go_enter Try.func74, Try.ntmps74
    go_wp2_with (first | ((with_reducible refine (lessW_any a b _ ha hb).mono ?_); rintro e w' ⟨rfl, rfl⟩) | ((with_reducible refine (lessW_any b a _ hb ha).mono ?_); rintro e w' ⟨rfl, rfl⟩) | fail)
    go_ret
    exact ⟨ret_bool (by rw [h3]; try rfl), rfl⟩

/-- 'x != x'. -/
theorem ne_self {b : Nat} (hb : b < 2 ^ 64) : (plc b = 6 → FloatKind.f64.format.order b b = none) ∧ (plc b ≠ 6 → FloatKind.f64.format.order b b = some .eq) := by
  rcases less_by hb hb with ⟨h, _⟩ | ⟨h, _⟩ | ⟨_, ⟨_, h⟩ | ⟨_, h⟩ | ⟨h1, _, h2⟩ | ⟨h1, _, h2⟩⟩
  · omega
  · omega
  · omega
  · omega
  · exact ⟨fun h => absurd h h2, fun _ => h1⟩
  · exact ⟨fun _ => h1, fun h => absurd h2 h⟩

/-- the document's kinds: 1 of NaN, else 0. -/
def rnkF (b : Nat) : Int := if plc b = 6 then 1 else 0
set_option maxHeartbeats 400000 in
theorem rank_any (b : Nat) (w : World) (hb : b < 2 ^ 64) : Calls Try.prog 108 #[.float .f64 b] w fun e w' => e = .returned (.int .i64 (rnkF b)) ∧ w = w' := by
  obtain ⟨h1, h2⟩ := ne_self hb
  by_cases h : plc b = 6
  · have ho := h1 h
    have H : Hid (rnkF b = 1) := if_pos h
    clear h1 h2 h hb
    go_enter Try.func108, Try.ntmps108
    go_wp2
    go_ret
    exact ⟨ret_int H.out.symm, rfl⟩
  · have ho := h2 h
    have H : Hid (rnkF b = 0) := if_neg h
    clear h1 h2 h hb
    go_enter Try.func108, Try.ntmps108
    go_wp2
    go_ret
    exact ⟨ret_int H.out.symm, rfl⟩
theorem rank_at {n : Int} (b : Nat) (w : World) (hb : b < 2 ^ 64) (h : rnkF b = n) : Calls Try.prog 108 #[.float .f64 b] w fun e w' => e = .returned (.int .i64 n) ∧ w = w' := by
  subst h; exact rank_any b w hb
theorem minus_at {x : Bool} (b : Nat) (w : World) (hb : b < 2 ^ 64) (h : decide (plc b = 2) = x) : Calls Try.prog 86 #[.float .f64 b] w fun e w' => e = .returned (.bool x) ∧ w = w' := by
  subst h; exact minus_any b w hb

/-- the order of floats that are no NaN, by their kinds. -/
theorem order_all {a b : Nat} (ha : a < 2 ^ 64) (hb : b < 2 ^ 64) (na : plc a ≠ 6) (nb : plc b ≠ 6) :
    (FloatKind.f64.format.order a b = some .lt ∧ posF a < posF b) ∨ (FloatKind.f64.format.order a b = some .gt ∧ posF b < posF a) ∨
    (FloatKind.f64.format.order a b = some .eq ∧ ((plc a = plc b ∧ posF a = posF b) ∨ (plc a = 2 ∧ plc b = 3 ∧ posF a < posF b) ∨ (plc a = 3 ∧ plc b = 2 ∧ posF b < posF a))) := by
  have hI := fI_pos
  have hk : fR a ≤ fI → fR b ≤ fI → FloatKind.f64.format.order a b = some (compare (fK a) (fK b)) := order_key
  have ka : fK a = if fS a then -(fR a : Int) else (fR a : Int) := rfl
  have kb : fK b = if fS b then -(fR b : Int) else (fR b : Int) := rfl
  have key : ∀ x y : Int, FloatKind.f64.format.order a b = some (compare x y) → (x < y → posF a < posF b) → (y < x → posF b < posF a) → (x = y → ((plc a = plc b ∧ posF a = posF b) ∨ (plc a = 2 ∧ plc b = 3 ∧ posF a < posF b) ∨ (plc a = 3 ∧ plc b = 2 ∧ posF b < posF a))) →
      ((FloatKind.f64.format.order a b = some .lt ∧ posF a < posF b) ∨ (FloatKind.f64.format.order a b = some .gt ∧ posF b < posF a) ∨
    (FloatKind.f64.format.order a b = some .eq ∧ ((plc a = plc b ∧ posF a = posF b) ∨ (plc a = 2 ∧ plc b = 3 ∧ posF a < posF b) ∨ (plc a = 3 ∧ plc b = 2 ∧ posF b < posF a)))) := by
    intro x y ho h1 h2 h3
    rcases Int.lt_trichotomy x y with h | h | h
    · left; exact ⟨by rw [ho, icmp_lt h], h1 h⟩
    · right; right; exact ⟨by rw [ho, icmp_eq h], h3 h⟩
    · right; left; exact ⟨by rw [ho, icmp_gt h], h2 h⟩
  rcases plc_all ha with ⟨h1, g1, h2⟩ | ⟨h1, g1, h2, h3, h4⟩ | ⟨h1, g1, h2, h3⟩ | ⟨h1, g1, h2, h2', h3, h5⟩ | ⟨h1, g1, h2, h2', h3⟩ | ⟨h1, g1, h2, h3, h4⟩ | ⟨h1, g1, h2, h3, h4⟩ <;>
    rcases plc_all hb with ⟨h1', k1, k2⟩ | ⟨h1', k1, k2, k3, k4⟩ | ⟨h1', k1, k2, k3⟩ | ⟨h1', k1, k2, k2', k3, k5⟩ | ⟨h1', k1, k2, k2', k3⟩ | ⟨h1', k1, k2, k3, k4⟩ | ⟨h1', k1, k2, k3, k4⟩ <;>
    first
      | (exfalso; omega)
      | (refine key _ _ (hk (by omega) (by omega)) ?_ ?_ ?_ <;> (rw [ka, kb, h3, k3]; simp only [if_true, Bool.false_eq_true, if_false]; omega))

theorem pos_nan {a : Nat} (ha : a < 2 ^ 64) : (plc a = 6 → posF a = 4 * (fI : Int)) ∧ (plc a ≠ 6 → posF a < 4 * (fI : Int)) := by
  have hI := fI_pos
  rcases plc_all ha with ⟨h1, g1, h2⟩ | ⟨h1, g1, h2, h3, h4⟩ | ⟨h1, g1, h2, h3⟩ | ⟨h1, g1, h2, h2', h3, h5⟩ | ⟨h1, g1, h2, h2', h3⟩ | ⟨h1, g1, h2, h3, h4⟩ | ⟨h1, g1, h2, h3, h4⟩ <;> constructor <;> intro h <;> omega

theorem rank_less {a b : Nat} (ha : a < 2 ^ 64) (hb : b < 2 ^ 64) (h : plc a = 6 ∨ plc b = 6) : decide (rnkF a < rnkF b) = lessB a b := by
  obtain ⟨a1, a2⟩ := pos_nan ha
  obtain ⟨b1, b2⟩ := pos_nan hb
  unfold lessB rnkF
  by_cases ca : plc a = 6 <;> by_cases cb : plc b = 6
  · rw [if_pos ca, if_pos cb, decide_eq_decide]; have := a1 ca; have := b1 cb; omega
  · rw [if_pos ca, if_neg cb, decide_eq_decide]; have := a1 ca; have := b2 cb; omega
  · rw [if_neg ca, if_pos cb, decide_eq_decide]; have := a2 ca; have := b1 cb; omega
  · omega

set_option maxHeartbeats 1000000 in
theorem refless_any (a b : Nat) (w : World) (ha : a < 2 ^ 64) (hb : b < 2 ^ 64) : Calls Try.prog 97 #[.float .f64 a, .float .f64 b] w fun e w' => e = .returned (.bool (lessB a b)) ∧ w = w' := by
  obtain ⟨na1, na2⟩ := ne_self ha
  obtain ⟨nb1, nb2⟩ := ne_self hb
  obtain ⟨p, hp⟩ : ∃ p : Int, rnkF a = p := ⟨_, rfl⟩
  obtain ⟨q, hq⟩ : ∃ q : Int, rnkF b = q := ⟨_, rfl⟩
  have CA := hide (fun w => rank_at a w ha hp)
  have CB := hide (fun w => rank_at b w hb hq)
  by_cases ca : plc a = 6
  · have ho := na1 ca
    have H := hide (rank_less ha hb (Or.inl ca))
    rw [hp, hq] at H
    clear na1 na2 nb1 nb2 hp hq ha hb ca
    go_enter Try.func97, Try.ntmps97
    go_wp2_with (first | ((with_reducible refine (CA.out _).mono ?_); rintro e w' ⟨rfl, rfl⟩) | ((with_reducible refine (CB.out _).mono ?_); rintro e w' ⟨rfl, rfl⟩) | fail)
    go_ret
    exact ⟨ret_bool H.out, rfl⟩
  · have ho := na2 ca
    by_cases cb : plc b = 6
    · have ho2 := nb1 cb
      have H := hide (rank_less ha hb (Or.inr cb))
      rw [hp, hq] at H
      clear na1 na2 nb1 nb2 hp hq ha hb ca cb
      go_enter Try.func97, Try.ntmps97
      go_wp2_with (first | ((with_reducible refine (CA.out _).mono ?_); rintro e w' ⟨rfl, rfl⟩) | ((with_reducible refine (CB.out _).mono ?_); rintro e w' ⟨rfl, rfl⟩) | fail)
      go_ret
      exact ⟨ret_bool H.out, rfl⟩
    · have ho2 := nb2 cb
      rcases order_all ha hb ca cb with ⟨h1, h2⟩ | ⟨h1, h2⟩ | ⟨h1, h2⟩
      · have H : Hid (lessB a b = true) := decide_eq_true h2
        clear na1 na2 nb1 nb2 hp hq ha hb ca cb h2
        go_enter Try.func97, Try.ntmps97
        go_wp2
        go_ret
        exact ⟨ret_bool H.out.symm, rfl⟩
      · have H : Hid (lessB a b = false) := decide_eq_false (by omega)
        clear na1 na2 nb1 nb2 hp hq ha hb ca cb h2
        go_enter Try.func97, Try.ntmps97
        go_wp2
        go_ret
        exact ⟨ret_bool H.out.symm, rfl⟩
      · have H : Hid ((decide (plc a = 2) && !decide (plc b = 2)) = lessB a b) := by
          refine hide ?_
          unfold lessB
          rcases h2 with ⟨e1, e2⟩ | ⟨e1, e2, e3⟩ | ⟨e1, e2, e3⟩
          · rw [e1, e2]; simp
          · rw [e1, e2]; simp [e3]
          · rw [e1, e2]; simp; omega
        obtain ⟨x, hx⟩ : ∃ x, decide (plc a = 2) = x := ⟨_, rfl⟩
        obtain ⟨y, hy⟩ : ∃ y, decide (plc b = 2) = y := ⟨_, rfl⟩
        rw [hx, hy] at H
        have MA := hide (fun w => minus_at a w ha hx)
        have MB := hide (fun w => minus_at b w hb hy)
        clear na1 na2 nb1 nb2 hp hq ha hb ca cb h2 hx hy
        cases x
        · go_enter Try.func97, Try.ntmps97
          go_wp2_with (first | ((with_reducible refine (MA.out _).mono ?_); rintro e w' ⟨rfl, rfl⟩) | ((with_reducible refine (MB.out _).mono ?_); rintro e w' ⟨rfl, rfl⟩) | fail)
          go_ret
          exact ⟨ret_bool H.out, rfl⟩
        · go_enter Try.func97, Try.ntmps97
          go_wp2_with (first | ((with_reducible refine (MA.out _).mono ?_); rintro e w' ⟨rfl, rfl⟩) | ((with_reducible refine (MB.out _).mono ?_); rintro e w' ⟨rfl, rfl⟩) | fail)
          go_ret
          exact ⟨ret_bool H.out, rfl⟩

set_option maxHeartbeats 1000000 in
theorem refsame_any (a b : Nat) (w : World) (ha : a < 2 ^ 64) (hb : b < 2 ^ 64) : Calls Try.prog 60 #[.float .f64 a, .float .f64 b] w fun e w' => e = .returned (.bool (sameB a b)) ∧ w = w' := by
  obtain ⟨na1, na2⟩ := ne_self ha
  obtain ⟨nb1, nb2⟩ := ne_self hb
  obtain ⟨a1, a2⟩ := pos_nan ha
  obtain ⟨b1, b2⟩ := pos_nan hb
  by_cases ca : plc a = 6
  · have ho := na1 ca
    by_cases cb : plc b = 6
    · have ho2 := nb1 cb
      have H : Hid (sameB a b = true) := decide_eq_true (by rw [a1 ca, b1 cb])
      clear na1 na2 nb1 nb2 ha hb ca cb a1 a2 b1 b2
      go_enter Try.func60, Try.ntmps60
      go_wp2
      go_ret
      exact ⟨ret_bool H.out.symm, rfl⟩
    · have ho2 := nb2 cb
      have H : Hid (sameB a b = false) := decide_eq_false (by have := a1 ca; have := b2 cb; omega)
      clear na1 na2 nb1 nb2 ha hb ca cb a1 a2 b1 b2
      go_enter Try.func60, Try.ntmps60
      go_wp2
      go_ret
      exact ⟨ret_bool H.out.symm, rfl⟩
  · have ho := na2 ca
    by_cases cb : plc b = 6
    · have ho2 := nb1 cb
      have H : Hid (sameB a b = false) := decide_eq_false (by have := a2 ca; have := b1 cb; omega)
      clear na1 na2 nb1 nb2 ha hb ca cb a1 a2 b1 b2
      go_enter Try.func60, Try.ntmps60
      go_wp2
      go_ret
      exact ⟨ret_bool H.out.symm, rfl⟩
    · have ho2 := nb2 cb
      rcases order_all ha hb ca cb with ⟨h1, h2⟩ | ⟨h1, h2⟩ | ⟨h1, h2⟩
      · have H : Hid (sameB a b = false) := decide_eq_false (by omega)
        clear na1 na2 nb1 nb2 ha hb ca cb h2 a1 a2 b1 b2
        go_enter Try.func60, Try.ntmps60
        go_wp2
        go_ret
        exact ⟨ret_bool H.out.symm, rfl⟩
      · have H : Hid (sameB a b = false) := decide_eq_false (by omega)
        clear na1 na2 nb1 nb2 ha hb ca cb h2 a1 a2 b1 b2
        go_enter Try.func60, Try.ntmps60
        go_wp2
        go_ret
        exact ⟨ret_bool H.out.symm, rfl⟩
      · have H : Hid ((decide (plc a = 2) == decide (plc b = 2)) = sameB a b) := by
          refine hide ?_
          unfold sameB
          rcases h2 with ⟨e1, e2⟩ | ⟨e1, e2, e3⟩ | ⟨e1, e2, e3⟩
          · rw [e1, e2]; simp
          · rw [e1, e2]; simp; omega
          · rw [e1, e2]; simp; omega
        obtain ⟨x, hx⟩ : ∃ x, decide (plc a = 2) = x := ⟨_, rfl⟩
        obtain ⟨y, hy⟩ : ∃ y, decide (plc b = 2) = y := ⟨_, rfl⟩
        rw [hx, hy] at H
        have MA := hide (fun w => minus_at a w ha hx)
        have MB := hide (fun w => minus_at b w hb hy)
        clear na1 na2 nb1 nb2 ha hb ca cb h2 hx hy a1 a2 b1 b2
        go_enter Try.func60, Try.ntmps60
        go_wp2_with (first | ((with_reducible refine (MA.out _).mono ?_); rintro e w' ⟨rfl, rfl⟩) | ((with_reducible refine (MB.out _).mono ?_); rintro e w' ⟨rfl, rfl⟩) | fail)
        go_ret
        exact ⟨ret_bool H.out, rfl⟩
end Go.Proofs.Ytmbddengmheeeaa
