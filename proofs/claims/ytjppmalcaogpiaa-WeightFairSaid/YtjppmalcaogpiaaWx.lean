import Derived.Test.YtjppmalcaogpiaaWk
namespace Go.Proofs.Ytjppmalcaogpiaa
open Go.RowKit
set_option maxRecDepth 100000
attribute [local go_sem] ord_none_lt ord_none_gt ord_none_eq ord_none_ne ord_lt_lt ord_lt_gt ord_lt_eq ord_lt_ne ord_gt_lt ord_gt_gt ord_gt_eq ord_gt_ne ord_eq_lt ord_eq_gt ord_eq_eq ord_eq_ne store_fl unary_negF
theorem sameB_self (a : Nat) : sameB a a = true := decide_eq_true rfl
theorem lt64 {x : Nat} (h : x < fI) : x < 2 ^ 64 := by rw [fI_val] at h; omega
theorem order_ge {x y : Nat} (hx : x ≤ fI) (h : y ≤ x) : FloatKind.f64.format.order x y = some .gt ∨ FloatKind.f64.format.order x y = some .eq := by
  rcases Nat.lt_or_eq_of_le h with h | h
  · left; exact order_gt hx h
  · right; exact order_eq hx h.symm
theorem order_le {x y : Nat} (hy : y ≤ fI) (h : x ≤ y) : FloatKind.f64.format.order x y = some .lt ∨ FloatKind.f64.format.order x y = some .eq := by
  rcases Nat.lt_or_eq_of_le h with h | h
  · left; exact order_lt hy h
  · right; exact order_eq (by omega) h

set_option maxHeartbeats 2000000 in
theorem weightClean_any (x y : Nat) (w : World) (hx : x < 2 ^ 64) (hy : y < 2 ^ 64) : Calls Try.prog 3 #[.float .f64 x, .float .f64 y] w fun e w' => e = .returned (.bool true) ∧ Below w.heap.size w w' := by
  obtain ⟨c, hc⟩ : ∃ c, clF x = c := ⟨_, rfl⟩
  obtain ⟨p, hp⟩ : ∃ p, prtF x y = p := ⟨_, rfl⟩
  have hcc : clF c = c := by rw [← hc]; exact clF_clF x
  have hc64 : c < 2 ^ 64 := by rw [← hc]; exact lt64 (clF_lt x)
  have hp1 : p ≤ fOne := by rw [← hp]; exact prtF_le x y
  have h1 := one_lt
  have hp64 : p < 2 ^ 64 := lt64 (by omega)
  have ho1 : FloatKind.f64.format.order p 0 = some .gt ∨ FloatKind.f64.format.order p 0 = some .eq := order_ge (by omega) (Nat.zero_le _)
  have ho2 : FloatKind.f64.format.order p 4607182418800017408 = some .lt ∨ FloatKind.f64.format.order p 4607182418800017408 = some .eq := order_le (y := fOne) (by omega) hp1
  have K1 := hide (fun w => clean_at x w hx hc)
  have K2 := hide (fun w => (part_any x y w hx hy))
  have K3 := hide (fun w => refclean_at x w hx hc)
  have K4 := hide (fun w => refsame_any c c w hc64 hc64)
  have K5 := hide (fun w => clean_at c w hc64 hcc)
  have K6 := hide (fun w => refpart_any x y w hx hy)
  have K7 := hide (fun w => refsame_any p p w hp64 hp64)
  rw [hp] at K2 K6
  rw [sameB_self] at K4 K7
  clear hc hp hcc hc64 hp1 hp64 h1 hx hy
  go_enter Try.func3, Try.ntmps3
  go_wp2_with fail
  refine (K1.out _).mono ?_
  rintro e w1 ⟨rfl, B1⟩
  have H1 := hide B1
  clear B1
  go_wp2_with fail
  refine (K2.out _).mono ?_
  rintro e w2 ⟨rfl, B2⟩
  have H2 := hide (below_two H1.out B2)
  clear B2 H1
  go_wp2_with fail
  refine (K3.out _).mono ?_
  rintro e w3 ⟨rfl, rfl⟩
  go_wp2_with fail
  refine (K4.out _).mono ?_
  rintro e w4 ⟨rfl, rfl⟩
  go_wp2_with fail
  refine (K5.out _).mono ?_
  rintro e w5 ⟨rfl, B5⟩
  have H5 := hide (below_two H2.out B5)
  clear B5 H2
  go_wp2_with fail
  refine (K4.out _).mono ?_
  rintro e w6 ⟨rfl, rfl⟩
  go_wp2_with fail
  refine (K6.out _).mono ?_
  rintro e w7 ⟨rfl, rfl⟩
  go_wp2_with fail
  refine (K7.out _).mono ?_
  rintro e w8 ⟨rfl, rfl⟩
  rcases ho1 with ho1 | ho1 <;> rcases ho2 with ho2 | ho2
  all_goals
    go_wp2_with fail
    refine (knownW_any _).mono ?_
    rintro e w9 ⟨rfl, B9⟩
    have H9 := hide (below_two H5.out B9)
    clear B9 H5
    go_wp2
    go_ret
    exact ⟨rfl, H9.out⟩

/-- the order of parts. -/
theorem clF_of {x : Nat} (h : clF x ≠ 0) : 0 < fV (2 ^ 52) (clF x) := by
  have := fV_lt (Nat.two_pow_pos 52) (show 0 < clF x by omega); rwa [fV_zero (Nat.two_pow_pos 52)] at this
theorem prt_rs {a x : Nat} (ha : clF a ≠ 0) (hx : clF x ≠ 0) (hlt : clF a < clF x) : RS (prtF a x) (fV (2 ^ 52) (clF a) * fU) (fV (2 ^ 52) (clF x)) := by
  obtain ⟨R, h1, _, h3⟩ := div_pos (clF_lt a) (by omega) (clF_lt x) (by omega)
  rcases part_ways a x with ⟨h, _⟩ | ⟨_, h, _⟩ | ⟨_, _, h, _⟩ | ⟨_, _, _, h⟩
  · exact absurd h ha
  · exact absurd h hx
  · omega
  · rw [h1] at h; injection h with h; rw [← h]; exact h3
theorem prt_grows {a b x : Nat} (h : clF a ≤ clF b) : prtF a x ≤ prtF b x := by
  have hb := prtF_le b x
  have ha := prtF_le a x
  rcases part_ways a x with ⟨h1, h2⟩ | ⟨h0, h1, h2⟩ | ⟨h0, h1, h2, h3⟩ | ⟨h0, h1, h2, h3⟩
  · rw [h2]; exact Nat.zero_le _
  · rw [h2]; exact Nat.zero_le _
  · have e : prtF b x = fOne := by unfold prtF; rw [if_neg (by omega), if_pos (by omega)]
    rw [e]; exact ha
  · by_cases c : clF x ≤ clF b
    · have e : prtF b x = fOne := by unfold prtF; rw [if_neg (by omega), if_pos c]
      rw [e]; exact ha
    · have r1 := prt_rs h0 h1 h2
      have r2 := prt_rs (show clF b ≠ 0 by omega) h1 (by omega)
      have hp := clF_of h1
      exact RS.mono hp hp r1 r2 (Nat.mul_le_mul_right _ (Nat.mul_le_mul_right _ (fV_le (Nat.two_pow_pos 52) h)))
theorem prt_falls {a x y : Nat} (hx0 : clF x ≠ 0) (h : clF x ≤ clF y) : prtF a y ≤ prtF a x := by
  have hx := prtF_le a x
  have hy := prtF_le a y
  rcases part_ways a y with ⟨h1, h2⟩ | ⟨h0, h1, h2⟩ | ⟨h0, h1, h2, h3⟩ | ⟨h0, h1, h2, h3⟩
  · rw [h2]; exact Nat.zero_le _
  · rw [h2]; exact Nat.zero_le _
  · have e : prtF a x = fOne := by unfold prtF; rw [if_neg (by omega), if_pos (by omega)]
    rw [e]; exact hy
  · by_cases c : clF x ≤ clF a
    · have e : prtF a x = fOne := by unfold prtF; rw [if_neg (by omega), if_pos c]
      rw [e]; exact hy
    · have r1 := prt_rs h0 h1 h2
      have r2 := prt_rs h0 hx0 (by omega)
      exact RS.mono (clF_of h1) (clF_of hx0) r1 r2 (Nat.mul_le_mul_left _ (fV_le (Nat.two_pow_pos 52) h))

set_option maxHeartbeats 4000000 in
theorem weightGrows_any (a b x y : Nat) (w : World) (ha : a < 2 ^ 64) (hb : b < 2 ^ 64) (hx : x < 2 ^ 64) (hy : y < 2 ^ 64) :
    Calls Try.prog 8 #[.float .f64 a, .float .f64 b, .float .f64 x, .float .f64 y] w fun e w' => e = .returned (.bool true) ∧ Below w.heap.size w w' := by
  obtain ⟨p, hp⟩ : ∃ p, prtF a x = p := ⟨_, rfl⟩
  obtain ⟨q, hq⟩ : ∃ q, prtF b x = q := ⟨_, rfl⟩
  obtain ⟨r, hr⟩ : ∃ r, prtF a y = r := ⟨_, rfl⟩
  obtain ⟨ca, hca⟩ : ∃ c, clF a = c := ⟨_, rfl⟩
  obtain ⟨cb, hcb⟩ : ∃ c, clF b = c := ⟨_, rfl⟩
  obtain ⟨cx, hcx⟩ : ∃ c, clF x = c := ⟨_, rfl⟩
  obtain ⟨cy, hcy⟩ : ∃ c, clF y = c := ⟨_, rfl⟩
  have g1 : ca ≤ cb → p ≤ q := fun h => by rw [← hp, ← hq]; exact prt_grows (by omega)
  have g2 : cx ≠ 0 → cx ≤ cy → r ≤ p := fun h0 h => by rw [← hr, ← hp]; exact prt_falls (by omega) (by omega)
  have l1 := one_lt
  have lp : p ≤ fI := by have := prtF_le a x; omega
  have lq : q ≤ fI := by have := prtF_le b x; omega
  have lr : r ≤ fI := by have := prtF_le a y; omega
  have la : ca ≤ fI := by have := clF_lt a; omega
  have lb : cb ≤ fI := by have := clF_lt b; omega
  have lx : cx ≤ fI := by have := clF_lt x; omega
  have ly : cy ≤ fI := by have := clF_lt y; omega
  have K1 := hide (fun w => part_any a x w ha hx)
  have K2 := hide (fun w => part_any b x w hb hx)
  have K3 := hide (fun w => part_any a y w ha hy)
  rw [hp] at K1
  rw [hq] at K2
  rw [hr] at K3
  have K4 := hide (fun w => refclean_at a w ha hca)
  have K5 := hide (fun w => refclean_at b w hb hcb)
  have K6 := hide (fun w => refclean_at x w hx hcx)
  have K7 := hide (fun w => refclean_at y w hy hcy)
  have o1 : (FloatKind.f64.format.order ca cb = some .lt ∧ (FloatKind.f64.format.order p q == some .gt) = false) ∨ (FloatKind.f64.format.order ca cb = some .eq ∧ (FloatKind.f64.format.order p q == some .gt) = false) ∨ FloatKind.f64.format.order ca cb = some .gt := by
    by_cases h : ca ≤ cb
    · have e : (FloatKind.f64.format.order p q == some .gt) = false := by rcases order_le lq (g1 h) with h | h <;> rw [h] <;> rfl
      rcases order_le lb h with h | h
      · exact .inl ⟨h, e⟩
      · exact .inr (.inl ⟨h, e⟩)
    · exact .inr (.inr (order_gt la (by omega)))
  have o2 : FloatKind.f64.format.order cx 0 = some .eq ∨ (FloatKind.f64.format.order cx 0 = some .gt ∧ FloatKind.f64.format.order cx cy = some .gt) ∨
      (FloatKind.f64.format.order cx 0 = some .gt ∧ (FloatKind.f64.format.order cx cy == some .gt) = false ∧ (FloatKind.f64.format.order r p = some .lt ∨ FloatKind.f64.format.order r p = some .eq)) := by
    by_cases h0 : cx = 0
    · exact .inl ((order_0 lx).1 h0)
    · right
      by_cases h : cy < cx
      · exact .inl ⟨(order_0 lx).2 h0, order_gt lx h⟩
      · right
        refine ⟨(order_0 lx).2 h0, ?_, order_le lp (g2 h0 (by omega))⟩
        rcases order_le ly (Nat.le_of_not_lt h) with h | h <;> rw [h] <;> rfl
  clear hp hq hr hca hcb hcx hcy g1 g2 l1 lp lq lr la lb lx ly ha hb hx hy
  go_enter Try.func8, Try.ntmps8
  go_wp2_with fail
  refine (K1.out _).mono ?_
  rintro e w1 ⟨rfl, B1⟩
  have H1 := hide B1
  clear B1
  go_wp2_with fail
  refine (K2.out _).mono ?_
  rintro e w2 ⟨rfl, B2⟩
  have H2 := hide (below_two H1.out B2)
  clear B2 H1
  go_wp2_with fail
  refine (K3.out _).mono ?_
  rintro e w3 ⟨rfl, B3⟩
  have H3 := hide (below_two H2.out B3)
  clear B3 H2
  go_wp2_with fail
  refine (K4.out _).mono ?_
  rintro e w4 ⟨rfl, rfl⟩
  go_wp2_with fail
  refine (K5.out _).mono ?_
  rintro e w5 ⟨rfl, rfl⟩
  rcases o1 with ⟨o1, o1'⟩ | ⟨o1, o1'⟩ | o1 <;> rcases o2 with o2 | ⟨o2, o3⟩ | ⟨o2, o3, o4 | o4⟩
  all_goals
    go_wp2_with (first | ((with_reducible refine (K6.out _).mono ?_); rintro e w6 ⟨rfl, rfl⟩) | ((with_reducible refine (K7.out _).mono ?_); rintro e w6 ⟨rfl, rfl⟩) | ((with_reducible refine (knownW_any _).mono ?_); rintro e w9 ⟨rfl, B9⟩; have H9 := hide (below_two H3.out B9); clear B9) | fail)
    go_ret
    exact ⟨rfl, H9.out⟩

/-- what is asked of the order of three. -/
theorem less_trans {a b c : Nat} (h1 : lessB a b = true) (h2 : lessB b c = true) : lessB a c = true := by
  unfold lessB at *
  simp only [decide_eq_true_eq] at *
  omega
theorem clF_mono {a b : Nat} (ha : a < 2 ^ 64) (hb : b < 2 ^ 64) (na : plc a ≠ 6) (nb : plc b ≠ 6) (h : lessB b a = false) : lessB (clF b) (clF a) = false := by
  unfold lessB at *
  simp only [decide_eq_false_iff_not] at *
  have la := clF_lt a
  have lb := clF_lt b
  have pa : posF (clF a) = 2 * (clF a : Int) := by
    obtain ⟨h1, h2⟩ := pos_rs (Nat.le_of_lt la); unfold posF; rw [h1, h2, if_neg (by omega)]; rfl
  have pb : posF (clF b) = 2 * (clF b : Int) := by
    obtain ⟨h1, h2⟩ := pos_rs (Nat.le_of_lt lb); unfold posF; rw [h1, h2, if_neg (by omega)]; rfl
  rw [pa, pb]
  have hM := fMost_I
  have ca : ∀ {x : Nat}, x < 2 ^ 64 → plc x ≠ 6 → (clF x : Int) = if posF x < 0 then 0 else min (posF x / 2) fMost := by
    intro x hx nx
    have hI := fI_pos
    rcases plc_all hx with ⟨h1, g1, h2⟩ | ⟨h1, g1, h2, h3, h4⟩ | ⟨h1, g1, h2, h3⟩ | ⟨h1, g1, h2, h2', h3, h5⟩ | ⟨h1, g1, h2, h2', h3⟩ | ⟨h1, g1, h2, h3, h4⟩ | ⟨h1, g1, h2, h3, h4⟩
    · exact absurd h1 nx
    · have : clF x = fMost := by unfold clF; rw [if_neg (by omega), h3, if_neg (by decide)]; omega
      rw [this, g1, if_neg (by omega)]; omega
    · have : clF x = 0 := by unfold clF; rw [if_neg (by omega), h3, if_pos rfl]
      rw [this, g1, if_pos (by omega)]; rfl
    · have : clF x = fR x := by unfold clF; rw [if_neg (by omega), h3, if_neg (by decide)]; omega
      rw [this, g1, if_neg (by omega)]; omega
    · have : clF x = 0 := by unfold clF; rw [if_neg (by omega), h3, if_pos rfl]
      rw [this, g1, if_pos (by omega)]; rfl
    · have : clF x = 0 := by unfold clF; rw [if_neg (by omega), h3, if_neg (by decide)]; omega
      rw [this, g1, if_neg (by omega)]; omega
    · have : clF x = 0 := by unfold clF; rw [if_neg (by omega), h3, if_pos rfl]
      rw [this, g1, if_pos (by omega)]; rfl
  rw [ca ha na, ca hb nb]
  split <;> split <;> omega

set_option maxHeartbeats 8000000 in
theorem weightOrder_any (a b c : Nat) (w : World) (ha : a < 2 ^ 64) (hb : b < 2 ^ 64) (hc : c < 2 ^ 64) :
    Calls Try.prog 4 #[.float .f64 a, .float .f64 b, .float .f64 c] w fun e w' => e = .returned (.bool true) ∧ Below w.heap.size w w' := by
  obtain ⟨s, hs⟩ : ∃ x, sameB a b = x := ⟨_, rfl⟩
  obtain ⟨l, hl⟩ : ∃ x, lessB a b = x := ⟨_, rfl⟩
  obtain ⟨g, hg⟩ : ∃ x, lessB b a = x := ⟨_, rfl⟩
  obtain ⟨t, ht⟩ : ∃ x, lessB b c = x := ⟨_, rfl⟩
  obtain ⟨u, hu⟩ : ∃ x, lessB a c = x := ⟨_, rfl⟩
  obtain ⟨ca, hca⟩ : ∃ x, clF a = x := ⟨_, rfl⟩
  obtain ⟨cb, hcb⟩ : ∃ x, clF b = x := ⟨_, rfl⟩
  obtain ⟨v, hv⟩ : ∃ x, lessB cb ca = x := ⟨_, rfl⟩
  have h3 := less_same a b
  rw [hs, hl, hg] at h3
  have h4 : l = false ∨ (l = true ∧ t = false) ∨ (l = true ∧ t = true ∧ u = true) := by
    cases l
    · exact .inl rfl
    · cases t
      · exact .inr (.inl ⟨rfl, rfl⟩)
      · exact .inr (.inr ⟨rfl, rfl, by rw [← hu]; exact less_trans hl ht⟩)
  have h5 : FloatKind.f64.format.order a a = none ∨ (FloatKind.f64.format.order a a = some .eq ∧ FloatKind.f64.format.order b b = none) ∨ (FloatKind.f64.format.order a a = some .eq ∧ FloatKind.f64.format.order b b = some .eq ∧ g = true) ∨
      (FloatKind.f64.format.order a a = some .eq ∧ FloatKind.f64.format.order b b = some .eq ∧ g = false ∧ v = false) := by
    obtain ⟨a1, a2⟩ := ne_self ha
    obtain ⟨b1, b2⟩ := ne_self hb
    by_cases na : plc a = 6
    · exact .inl (a1 na)
    · by_cases nb : plc b = 6
      · exact .inr (.inl ⟨a2 na, b1 nb⟩)
      · cases g
        · exact .inr (.inr (.inr ⟨a2 na, b2 nb, rfl, by rw [← hv, ← hca, ← hcb]; exact clF_mono ha hb na nb hg⟩))
        · exact .inr (.inr (.inl ⟨a2 na, b2 nb, rfl⟩))
  have la : ca < 2 ^ 64 := by rw [← hca]; exact lt64 (clF_lt a)
  have lb : cb < 2 ^ 64 := by rw [← hcb]; exact lt64 (clF_lt b)
  have K1 := hide (fun w => sameW_any a b w ha hb)
  have K2 := hide (fun w => refsame_any a b w ha hb)
  have K3 := hide (fun w => lessW_any a b w ha hb)
  have K4 := hide (fun w => refless_any a b w ha hb)
  have K5 := hide (fun w => lessW_any b a w hb ha)
  have K6 := hide (fun w => lessW_any b c w hb hc)
  have K7 := hide (fun w => lessW_any a c w ha hc)
  have K8 := hide (fun w => clean_at a w ha hca)
  have K9 := hide (fun w => clean_at b w hb hcb)
  have K0 := hide (fun w => lessW_any cb ca w lb la)
  rw [hs] at K1 K2
  rw [hl] at K3 K4
  rw [hg] at K5
  rw [ht] at K6
  rw [hu] at K7
  rw [hv] at K0
  clear hs hl hg ht hu hca hcb hv la lb ha hb hc
  rcases h3 with ⟨rfl, rfl, rfl⟩ | ⟨rfl, rfl, rfl⟩ | ⟨rfl, rfl, rfl⟩ <;> rcases h4 with h4 | ⟨h4, h4'⟩ | ⟨h4, h4', h4''⟩ <;> rcases h5 with h5 | ⟨h5, h6⟩ | ⟨h5, h6, h7⟩ | ⟨h5, h6, h7, h8⟩ <;> first | (cases h4; done) | (cases h7; done) | skip
  all_goals
    try subst h4'
    try subst h4''
    try subst h8
    try clear h4
    try clear h7
    go_enter Try.func4, Try.ntmps4
    go_wp2_with (first | ((with_reducible refine (K1.out _).mono ?_); rintro e w1 ⟨rfl, rfl⟩) | ((with_reducible refine (K2.out _).mono ?_); rintro e w1 ⟨rfl, rfl⟩) | ((with_reducible refine (K3.out _).mono ?_); rintro e w1 ⟨rfl, rfl⟩) | ((with_reducible refine (K4.out _).mono ?_); rintro e w1 ⟨rfl, rfl⟩) | ((with_reducible refine (K5.out _).mono ?_); rintro e w1 ⟨rfl, rfl⟩) | ((with_reducible refine (K6.out _).mono ?_); rintro e w1 ⟨rfl, rfl⟩) | ((with_reducible refine (K7.out _).mono ?_); rintro e w1 ⟨rfl, rfl⟩) | ((with_reducible refine (K9.out _).mono ?_); rintro e w1 ⟨rfl, B1⟩; have H1 := hide B1; clear B1) | ((with_reducible refine (K8.out _).mono ?_); rintro e w2 ⟨rfl, B2⟩; have H2 := hide (below_two H1.out B2); clear B2) | ((with_reducible refine (K0.out _).mono ?_); rintro e w3 ⟨rfl, rfl⟩) | ((with_reducible refine (knownW_any _).mono ?_); rintro e w9 ⟨rfl, B9⟩; have H9 := hide B9; clear B9) | fail)
    go_ret
    first | exact ⟨rfl, H9.out⟩ | exact ⟨rfl, below_two H2.out H9.out⟩
end Go.Proofs.Ytjppmalcaogpiaa
