/-
  The walk of the statement LifeGrows.
-/
import Derived.Test.YtmbddengmheeeaaLfx
import Derived.Test.YtmbddengmheeeaaQc
namespace Go.Proofs.Ytmbddengmheeeaa
open Go.RowKit
set_option maxRecDepth 100000
set_option linter.unusedVariables false
set_option linter.unusedSimpArgs false
attribute [local go_sem ↓] exec_span exec_put exec_build heap_alloc_new heap_old
attribute [local go_sem] spanQ_ptr spanC_some heap_of_drew heap_of_drewN rs_ad rs_spec rs_rec putAt_ptr putOk_ptr oldOk_some store_fl World.setRow_alloc_new

theorem rs_rrec : rowSize Try.prog 30 = some 24 := by kernel_rfl
attribute [local go_sem] rs_rrec
theorem given_kn (w : World) (X : Array Value) (k : Kn) (va : Option Addr) (vc : Nat) (h : KnV w w.heap.size X k va vc) (hl : k.vs.length ≤ 8796093022208) :
    Calls Try.prog 10 #[.agg X] w (fun e w' => ∃ X', e = .returned (.agg X') ∧ ∃ va vc, KnV w' w'.heap.size X' k va vc ∧ Below w.heap.size w w') :=
  (givenK_any w w.heap.size X k va vc h (Nat.le_refl _) hl).mono fun e w' ⟨X', he, va, vc, hk, _, hb⟩ => ⟨X', he, va, vc, hk, hb⟩
theorem join_kn (w : World) (X Y : Array Value) (a b : Kn) (va vb : Option Addr) (ca cb : Nat) (h : KnV w w.heap.size X a va ca) (h' : KnV w w.heap.size Y b vb cb) (ha : okL a) (hb : okL b) :
    Calls Try.prog 13 #[.agg X, .agg Y] w (fun e w' => ∃ J, e = .returned (.tuple #[.agg J, .int .i64 0]) ∧ ∃ va vc, KnV w' w'.heap.size J (joinK a b) va vc ∧ Below w.heap.size w w') :=
  (joinK_any w w.heap.size X Y a b va vb ca cb h h' (Nat.le_refl _)).mono fun e w' ⟨J, he, va, vc, hk, _, hb'⟩ => ⟨J, by rw [he, joinE_ok ha hb], va, vc, hk, hb'⟩
set_option maxHeartbeats 16000000 in
theorem lifeGrows_any (w : World) (X Y Z : Array Value) (a b c : Kn) (va vb vc : Option Addr) (ca cb cc : Nat) (ha : KnV w w.heap.size X a va ca) (hb : KnV w w.heap.size Y b vb cb) (hc : KnV w w.heap.size Z c vc cc)
    (la : a.vs.length ≤ 8796093022208) (lb : b.vs.length ≤ 8796093022208) (lc : c.vs.length ≤ 8796093022208) :
    Calls Try.prog 3 #[.agg X, .agg Y, .agg Z] w (fun e w' => e = .returned (.bool true) ∧ Below w.heap.size w w') := by
  have HB0 := hide (Below.refl w.heap.size w)
  have KA := hide ha
  have KB := hide hb
  have KC := hide hc
  have LA := hide la
  have LB := hide lb
  have LC := hide lc
  clear ha hb hc la lb lc
  have s_X := KA.out.rc.size
  have x_X := KA.out.rc.x0
  have o_X := KA.out.rc.one
  have s_Y := KB.out.rc.size
  have x_Y := KB.out.rc.x0
  have o_Y := KB.out.rc.one
  have s_Z := KC.out.rc.size
  have x_Z := KC.out.rc.x0
  have o_Z := KC.out.rc.one
  go_enter Try.func3, Try.ntmps3
  go_upto_region 1 with (fail)
  change Code.wp _ _ _ _ (((w.alloc (.cells X 30)).alloc (.cells Y 30)).alloc (.cells Z 30))
  obtain ⟨w1, hw1, r_X, z1, b1⟩ := alloc_nam w (.cells X 30)
  rw [hw1]
  have L_X := hide (show w.heap.size < w1.heap.size by omega)
  have G_X := hide HB0.out.size
  replace KA := hide ((KA.out.below b1 (Nat.le_refl _)).more b1.size)
  replace KB := hide ((KB.out.below b1 (Nat.le_refl _)).more b1.size)
  replace KC := hide ((KC.out.below b1 (Nat.le_refl _)).more b1.size)
  replace HB0 := hide (HB0.out.trans (b1.mono HB0.out.size))
  obtain ⟨g_X, hg1⟩ : ∃ g, g = w.heap.size := ⟨_, rfl⟩
  rw [← hg1] at r_X L_X G_X
  rw [← hg1]
  clear hw1 b1
  obtain ⟨w2, hw2, r_Y, z2, b2⟩ := alloc_nam w1 (.cells Y 30)
  rw [hw2]
  have L_Y := hide (show w1.heap.size < w2.heap.size by omega)
  have G_Y := hide HB0.out.size
  replace r_X := (b2.block g_X L_X.out).trans r_X
  replace L_X := hide (Nat.lt_of_lt_of_le L_X.out b2.size)
  replace KA := hide ((KA.out.below b2 (Nat.le_refl _)).more b2.size)
  replace KB := hide ((KB.out.below b2 (Nat.le_refl _)).more b2.size)
  replace KC := hide ((KC.out.below b2 (Nat.le_refl _)).more b2.size)
  replace HB0 := hide (HB0.out.trans (b2.mono HB0.out.size))
  obtain ⟨g_Y, hg2⟩ : ∃ g, g = w1.heap.size := ⟨_, rfl⟩
  rw [← hg2] at r_Y L_Y G_Y
  rw [show g_X + 1 = g_Y by omega]
  clear hw2 b2
  obtain ⟨w3, hw3, r_Z, z3, b3⟩ := alloc_nam w2 (.cells Z 30)
  rw [hw3]
  have L_Z := hide (show w2.heap.size < w3.heap.size by omega)
  have G_Z := hide HB0.out.size
  replace r_X := (b3.block g_X L_X.out).trans r_X
  replace L_X := hide (Nat.lt_of_lt_of_le L_X.out b3.size)
  replace r_Y := (b3.block g_Y L_Y.out).trans r_Y
  replace L_Y := hide (Nat.lt_of_lt_of_le L_Y.out b3.size)
  replace KA := hide ((KA.out.below b3 (Nat.le_refl _)).more b3.size)
  replace KB := hide ((KB.out.below b3 (Nat.le_refl _)).more b3.size)
  replace KC := hide ((KC.out.below b3 (Nat.le_refl _)).more b3.size)
  replace HB0 := hide (HB0.out.trans (b3.mono HB0.out.size))
  obtain ⟨g_Z, hg3⟩ : ∃ g, g = w2.heap.size := ⟨_, rfl⟩
  rw [← hg3] at r_Z L_Z G_Z
  rw [show g_Y + 1 = g_Z by omega]
  clear hw3 b3
  clear z1 hg1 z2 hg2 z3 hg3
  go_wp2_with fail
  refine (given_kn w3 X _ _ _ KA.out LA.out).mono ?_
  rintro e w4 ⟨M1, rfl, v_M1, c_M1, k_M1, b_M1⟩
  dsimp only
  replace r_X := (b_M1.block g_X L_X.out).trans r_X
  replace L_X := hide (Nat.lt_of_lt_of_le L_X.out b_M1.size)
  replace r_Y := (b_M1.block g_Y L_Y.out).trans r_Y
  replace L_Y := hide (Nat.lt_of_lt_of_le L_Y.out b_M1.size)
  replace r_Z := (b_M1.block g_Z L_Z.out).trans r_Z
  replace L_Z := hide (Nat.lt_of_lt_of_le L_Z.out b_M1.size)
  replace KA := hide ((KA.out.below b_M1 (Nat.le_refl _)).more b_M1.size)
  replace KB := hide ((KB.out.below b_M1 (Nat.le_refl _)).more b_M1.size)
  replace KC := hide ((KC.out.below b_M1 (Nat.le_refl _)).more b_M1.size)
  replace HB0 := hide (HB0.out.trans (b_M1.mono HB0.out.size))
  have K_M1 := hide k_M1
  have s_M1 := K_M1.out.rc.size
  have x_M1 := K_M1.out.rc.x0
  have o_M1 := K_M1.out.rc.one
  clear k_M1 b_M1 r_X L_X KA LA s_X x_X o_X
  go_upto_region 2 with (fail)
  obtain ⟨w5, hw5, r_x, z5, b5⟩ := alloc_nam w4 (.cells M1 34)
  rw [hw5]
  have L_x := hide (show w4.heap.size < w5.heap.size by omega)
  have G_x := hide HB0.out.size
  replace r_Y := (b5.block g_Y L_Y.out).trans r_Y
  replace L_Y := hide (Nat.lt_of_lt_of_le L_Y.out b5.size)
  replace r_Z := (b5.block g_Z L_Z.out).trans r_Z
  replace L_Z := hide (Nat.lt_of_lt_of_le L_Z.out b5.size)
  replace KB := hide ((KB.out.below b5 (Nat.le_refl _)).more b5.size)
  replace KC := hide ((KC.out.below b5 (Nat.le_refl _)).more b5.size)
  replace K_M1 := hide ((K_M1.out.below b5 (Nat.le_refl _)).more b5.size)
  replace HB0 := hide (HB0.out.trans (b5.mono HB0.out.size))
  obtain ⟨g_x, hg5⟩ : ∃ g, g = w4.heap.size := ⟨_, rfl⟩
  rw [← hg5] at r_x L_x G_x ⊢
  clear hw5 z5 b5 hg5
  go_wp2_with fail
  refine (given_kn w5 Y _ _ _ KB.out LB.out).mono ?_
  rintro e w6 ⟨M2, rfl, v_M2, c_M2, k_M2, b_M2⟩
  dsimp only
  replace r_Y := (b_M2.block g_Y L_Y.out).trans r_Y
  replace L_Y := hide (Nat.lt_of_lt_of_le L_Y.out b_M2.size)
  replace r_Z := (b_M2.block g_Z L_Z.out).trans r_Z
  replace L_Z := hide (Nat.lt_of_lt_of_le L_Z.out b_M2.size)
  replace r_x := (b_M2.block g_x L_x.out).trans r_x
  replace L_x := hide (Nat.lt_of_lt_of_le L_x.out b_M2.size)
  replace KB := hide ((KB.out.below b_M2 (Nat.le_refl _)).more b_M2.size)
  replace KC := hide ((KC.out.below b_M2 (Nat.le_refl _)).more b_M2.size)
  replace K_M1 := hide ((K_M1.out.below b_M2 (Nat.le_refl _)).more b_M2.size)
  replace HB0 := hide (HB0.out.trans (b_M2.mono HB0.out.size))
  have K_M2 := hide k_M2
  have s_M2 := K_M2.out.rc.size
  have x_M2 := K_M2.out.rc.x0
  have o_M2 := K_M2.out.rc.one
  clear k_M2 b_M2 r_Y L_Y KB LB s_Y x_Y o_Y
  go_upto_region 3 with (fail)
  obtain ⟨w7, hw7, r_y, z7, b7⟩ := alloc_nam w6 (.cells M2 34)
  rw [hw7]
  have L_y := hide (show w6.heap.size < w7.heap.size by omega)
  have G_y := hide HB0.out.size
  replace r_Z := (b7.block g_Z L_Z.out).trans r_Z
  replace L_Z := hide (Nat.lt_of_lt_of_le L_Z.out b7.size)
  replace r_x := (b7.block g_x L_x.out).trans r_x
  replace L_x := hide (Nat.lt_of_lt_of_le L_x.out b7.size)
  replace KC := hide ((KC.out.below b7 (Nat.le_refl _)).more b7.size)
  replace K_M1 := hide ((K_M1.out.below b7 (Nat.le_refl _)).more b7.size)
  replace K_M2 := hide ((K_M2.out.below b7 (Nat.le_refl _)).more b7.size)
  replace HB0 := hide (HB0.out.trans (b7.mono HB0.out.size))
  obtain ⟨g_y, hg7⟩ : ∃ g, g = w6.heap.size := ⟨_, rfl⟩
  rw [← hg7] at r_y L_y G_y ⊢
  clear hw7 z7 b7 hg7
  go_wp2_with fail
  refine (given_kn w7 Z _ _ _ KC.out LC.out).mono ?_
  rintro e w8 ⟨M3, rfl, v_M3, c_M3, k_M3, b_M3⟩
  dsimp only
  replace r_Z := (b_M3.block g_Z L_Z.out).trans r_Z
  replace L_Z := hide (Nat.lt_of_lt_of_le L_Z.out b_M3.size)
  replace r_x := (b_M3.block g_x L_x.out).trans r_x
  replace L_x := hide (Nat.lt_of_lt_of_le L_x.out b_M3.size)
  replace r_y := (b_M3.block g_y L_y.out).trans r_y
  replace L_y := hide (Nat.lt_of_lt_of_le L_y.out b_M3.size)
  replace KC := hide ((KC.out.below b_M3 (Nat.le_refl _)).more b_M3.size)
  replace K_M1 := hide ((K_M1.out.below b_M3 (Nat.le_refl _)).more b_M3.size)
  replace K_M2 := hide ((K_M2.out.below b_M3 (Nat.le_refl _)).more b_M3.size)
  replace HB0 := hide (HB0.out.trans (b_M3.mono HB0.out.size))
  have K_M3 := hide k_M3
  have s_M3 := K_M3.out.rc.size
  have x_M3 := K_M3.out.rc.x0
  have o_M3 := K_M3.out.rc.one
  clear k_M3 b_M3 r_Z L_Z KC LC s_Z x_Z o_Z
  go_upto_region 4 with (fail)
  obtain ⟨w9, hw9, r_z, z9, b9⟩ := alloc_nam w8 (.cells M3 34)
  rw [hw9]
  have L_z := hide (show w8.heap.size < w9.heap.size by omega)
  have G_z := hide HB0.out.size
  replace r_x := (b9.block g_x L_x.out).trans r_x
  replace L_x := hide (Nat.lt_of_lt_of_le L_x.out b9.size)
  replace r_y := (b9.block g_y L_y.out).trans r_y
  replace L_y := hide (Nat.lt_of_lt_of_le L_y.out b9.size)
  replace K_M1 := hide ((K_M1.out.below b9 (Nat.le_refl _)).more b9.size)
  replace K_M2 := hide ((K_M2.out.below b9 (Nat.le_refl _)).more b9.size)
  replace K_M3 := hide ((K_M3.out.below b9 (Nat.le_refl _)).more b9.size)
  replace HB0 := hide (HB0.out.trans (b9.mono HB0.out.size))
  obtain ⟨g_z, hg9⟩ : ∃ g, g = w8.heap.size := ⟨_, rfl⟩
  rw [← hg9] at r_z L_z G_z ⊢
  clear hw9 z9 b9 hg9
  have FB := hide HB0.out
  have HF : Hid (∀ (p : BW w9) (w' : World), Below p.w.heap.size p.w w' → Below w.heap.size w w') := hide fun p w' hb => FB.out.trans ((p.below.trans (hb.mono p.below.size)).mono FB.out.size)
  have KRa := hide (fun p : BW w9 => rightK_any p.w w9.heap.size M1 a _ _ (K_M1.out.below p.below (Nat.le_refl _)) p.below.size)
  have R_x : ∀ p : BW w9, p.w.heap[g_x]? = some (.cells M1 34 (0, 0)) := fun p => p.block r_x
  have KRb := hide (fun p : BW w9 => rightK_any p.w w9.heap.size M2 b _ _ (K_M2.out.below p.below (Nat.le_refl _)) p.below.size)
  have R_y : ∀ p : BW w9, p.w.heap[g_y]? = some (.cells M2 34 (0, 0)) := fun p => p.block r_y
  have KRc := hide (fun p : BW w9 => rightK_any p.w w9.heap.size M3 c _ _ (K_M3.out.below p.below (Nat.le_refl _)) p.below.size)
  have R_z : ∀ p : BW w9, p.w.heap[g_z]? = some (.cells M3 34 (0, 0)) := fun p => p.block r_z
  have HL : Hid (a.sp.ab.length = 16 ∧ b.sp.ab.length = 16 ∧ c.sp.ab.length = 16) := hide ⟨K_M1.out.rc.la, K_M2.out.rc.la, K_M3.out.rc.la⟩
  obtain ⟨qa, hqa⟩ : ∃ q, q = okK a := ⟨_, rfl⟩
  rw [← hqa] at KRa
  have Qa := hide hqa
  clear hqa
  obtain ⟨qb, hqb⟩ : ∃ q, q = okK b := ⟨_, rfl⟩
  rw [← hqb] at KRb
  have Qb := hide hqb
  clear hqb
  obtain ⟨qc, hqc⟩ : ∃ q, q = okK c := ⟨_, rfl⟩
  rw [← hqc] at KRc
  have Qc := hide hqc
  clear hqc
  go_upto_region 4 with (fail)
  cases qa
  · first | refine wp_region_belowS w9 (Below.refl _ _) ?_ | refine wp_region_below w9 (Below.refl _ _) (by kernel_rfl) (by kernel_rfl) ?_
    repeat
      first
      | (go_big_quiet_step (first
      | ((go_at_call 11; with_reducible exact Calls.bel (KRa.out _)))
      | fail))
      | (go_big_quiet_want; apply quiet_span; (intro p; go_simp; rfl); (try simp only [Act.put, List.setIfInBounds_toArray, List.set_cons_zero, List.set_cons_succ]); go_big_quiet_on)
    refine wpQuiet_nil ?_
    intro _ hw'
    obtain ⟨pq, hw''⟩ := hw'
    subst hw''
    go_wp2_with fail
    refine (knownL_any pq.w).mono ?_
    rintro e wk ⟨rfl, bk⟩
    dsimp only
    have HK := hide (HF.out pq wk bk)
    clear bk
    go_wp2
    go_ret
    exact ⟨rfl, HK.out⟩
  cases qb
  · first | refine wp_region_belowS w9 (Below.refl _ _) ?_ | refine wp_region_below w9 (Below.refl _ _) (by kernel_rfl) (by kernel_rfl) ?_
    repeat
      first
      | (go_big_quiet_step (first
      | ((go_at_call 11; with_reducible exact Calls.bel (KRa.out _)))
      | ((go_at_call 11; with_reducible exact Calls.bel (KRb.out _)))
      | fail))
      | (go_big_quiet_want; apply quiet_span; (intro p; go_simp; rfl); (try simp only [Act.put, List.setIfInBounds_toArray, List.set_cons_zero, List.set_cons_succ]); go_big_quiet_on)
    refine wpQuiet_nil ?_
    intro _ hw'
    obtain ⟨pq, hw''⟩ := hw'
    subst hw''
    go_wp2_with fail
    refine (knownL_any pq.w).mono ?_
    rintro e wk ⟨rfl, bk⟩
    dsimp only
    have HK := hide (HF.out pq wk bk)
    clear bk
    go_wp2
    go_ret
    exact ⟨rfl, HK.out⟩
  cases qc
  · first | refine wp_region_belowS w9 (Below.refl _ _) ?_ | refine wp_region_below w9 (Below.refl _ _) (by kernel_rfl) (by kernel_rfl) ?_
    repeat
      first
      | (go_big_quiet_step (first
      | ((go_at_call 11; with_reducible exact Calls.bel (KRa.out _)))
      | ((go_at_call 11; with_reducible exact Calls.bel (KRb.out _)))
      | ((go_at_call 11; with_reducible exact Calls.bel (KRc.out _)))
      | fail))
      | (go_big_quiet_want; apply quiet_span; (intro p; go_simp; rfl); (try simp only [Act.put, List.setIfInBounds_toArray, List.set_cons_zero, List.set_cons_succ]); go_big_quiet_on)
    refine wpQuiet_nil ?_
    intro _ hw'
    obtain ⟨pq, hw''⟩ := hw'
    subst hw''
    go_wp2_with fail
    refine (knownL_any pq.w).mono ?_
    rintro e wk ⟨rfl, bk⟩
    dsimp only
    have HK := hide (HF.out pq wk bk)
    clear bk
    go_wp2
    go_ret
    exact ⟨rfl, HK.out⟩
  first | refine wp_region_belowS w9 (Below.refl _ _) ?_ | refine wp_region_below w9 (Below.refl _ _) (by kernel_rfl) (by kernel_rfl) ?_
  repeat
    first
    | (go_big_quiet_step (first
    | ((go_at_call 11; with_reducible exact Calls.bel (KRa.out _)))
    | ((go_at_call 11; with_reducible exact Calls.bel (KRb.out _)))
    | ((go_at_call 11; with_reducible exact Calls.bel (KRc.out _)))
    | fail))
    | (go_big_quiet_want; apply quiet_span; (intro p; go_simp; rfl); (try simp only [Act.put, List.setIfInBounds_toArray, List.set_cons_zero, List.set_cons_succ]); go_big_quiet_on)
  refine wpQuiet_nil ?_
  intro _ hw'
  obtain ⟨pq, hw''⟩ := hw'
  subst hw''
  have OA : Hid (okL a) := hide ⟨Qa.out.symm, HL.out.1⟩
  have OB : Hid (okL b) := hide ⟨Qb.out.symm, HL.out.2.1⟩
  have OC : Hid (okL c) := hide ⟨Qc.out.symm, HL.out.2.2⟩
  clear KRa KRb KRc R_x R_y R_z FB HF HL Qa Qb Qc
  obtain ⟨w20, hw20⟩ : ∃ w1, w1 = pq.w := ⟨_, rfl⟩
  have b20 := pq.below
  rw [← hw20] at b20 ⊢
  replace r_x := (b20.block g_x L_x.out).trans r_x
  replace L_x := hide (Nat.lt_of_lt_of_le L_x.out b20.size)
  replace r_y := (b20.block g_y L_y.out).trans r_y
  replace L_y := hide (Nat.lt_of_lt_of_le L_y.out b20.size)
  replace r_z := (b20.block g_z L_z.out).trans r_z
  replace L_z := hide (Nat.lt_of_lt_of_le L_z.out b20.size)
  replace K_M1 := hide ((K_M1.out.below b20 (Nat.le_refl _)).more b20.size)
  replace K_M2 := hide ((K_M2.out.below b20 (Nat.le_refl _)).more b20.size)
  replace K_M3 := hide ((K_M3.out.below b20 (Nat.le_refl _)).more b20.size)
  replace HB0 := hide (HB0.out.trans (b20.mono HB0.out.size))
  clear b20 hw20 pq
  go_wp2_with fail
  refine (join_kn w20 M1 M2 a b _ _ _ _ K_M1.out K_M2.out OA.out OB.out).mono ?_
  rintro e w10 ⟨AB, rfl, v_AB, c_AB, k_AB, b_AB⟩
  dsimp only
  replace r_x := (b_AB.block g_x L_x.out).trans r_x
  replace L_x := hide (Nat.lt_of_lt_of_le L_x.out b_AB.size)
  replace r_y := (b_AB.block g_y L_y.out).trans r_y
  replace L_y := hide (Nat.lt_of_lt_of_le L_y.out b_AB.size)
  replace r_z := (b_AB.block g_z L_z.out).trans r_z
  replace L_z := hide (Nat.lt_of_lt_of_le L_z.out b_AB.size)
  replace K_M1 := hide ((K_M1.out.below b_AB (Nat.le_refl _)).more b_AB.size)
  replace K_M2 := hide ((K_M2.out.below b_AB (Nat.le_refl _)).more b_AB.size)
  replace K_M3 := hide ((K_M3.out.below b_AB (Nat.le_refl _)).more b_AB.size)
  replace HB0 := hide (HB0.out.trans (b_AB.mono HB0.out.size))
  have K_AB := hide k_AB
  have s_AB := K_AB.out.rc.size
  have x_AB := K_AB.out.rc.x0
  have o_AB := K_AB.out.rc.one
  clear k_AB b_AB
  have OAB := hide (joinK_ok OA.out OB.out)
  go_upto_region 7 with (fail)
  obtain ⟨w11, hw11, r_ab, z11, b11⟩ := alloc_nam w10 (.cells AB 34)
  rw [hw11]
  have L_ab := hide (show w10.heap.size < w11.heap.size by omega)
  have G_ab := hide HB0.out.size
  replace r_x := (b11.block g_x L_x.out).trans r_x
  replace L_x := hide (Nat.lt_of_lt_of_le L_x.out b11.size)
  replace r_y := (b11.block g_y L_y.out).trans r_y
  replace L_y := hide (Nat.lt_of_lt_of_le L_y.out b11.size)
  replace r_z := (b11.block g_z L_z.out).trans r_z
  replace L_z := hide (Nat.lt_of_lt_of_le L_z.out b11.size)
  replace K_M1 := hide ((K_M1.out.below b11 (Nat.le_refl _)).more b11.size)
  replace K_M2 := hide ((K_M2.out.below b11 (Nat.le_refl _)).more b11.size)
  replace K_M3 := hide ((K_M3.out.below b11 (Nat.le_refl _)).more b11.size)
  replace K_AB := hide ((K_AB.out.below b11 (Nat.le_refl _)).more b11.size)
  replace HB0 := hide (HB0.out.trans (b11.mono HB0.out.size))
  obtain ⟨g_ab, hg11⟩ : ∃ g, g = w10.heap.size := ⟨_, rfl⟩
  rw [← hg11] at r_ab L_ab G_ab ⊢
  clear hw11 z11 b11 hg11
  go_wp2_with fail
  refine (join_kn w11 M2 M1 b a _ _ _ _ K_M2.out K_M1.out OB.out OA.out).mono ?_
  rintro e w12 ⟨BA, rfl, v_BA, c_BA, k_BA, b_BA⟩
  dsimp only
  replace r_x := (b_BA.block g_x L_x.out).trans r_x
  replace L_x := hide (Nat.lt_of_lt_of_le L_x.out b_BA.size)
  replace r_y := (b_BA.block g_y L_y.out).trans r_y
  replace L_y := hide (Nat.lt_of_lt_of_le L_y.out b_BA.size)
  replace r_z := (b_BA.block g_z L_z.out).trans r_z
  replace L_z := hide (Nat.lt_of_lt_of_le L_z.out b_BA.size)
  replace r_ab := (b_BA.block g_ab L_ab.out).trans r_ab
  replace L_ab := hide (Nat.lt_of_lt_of_le L_ab.out b_BA.size)
  replace K_M1 := hide ((K_M1.out.below b_BA (Nat.le_refl _)).more b_BA.size)
  replace K_M2 := hide ((K_M2.out.below b_BA (Nat.le_refl _)).more b_BA.size)
  replace K_M3 := hide ((K_M3.out.below b_BA (Nat.le_refl _)).more b_BA.size)
  replace K_AB := hide ((K_AB.out.below b_BA (Nat.le_refl _)).more b_BA.size)
  replace HB0 := hide (HB0.out.trans (b_BA.mono HB0.out.size))
  have K_BA := hide k_BA
  have s_BA := K_BA.out.rc.size
  have x_BA := K_BA.out.rc.x0
  have o_BA := K_BA.out.rc.one
  clear k_BA b_BA
  have OBA := hide (joinK_ok OB.out OA.out)
  go_upto_region 8 with (fail)
  obtain ⟨w13, hw13, r_ba, z13, b13⟩ := alloc_nam w12 (.cells BA 34)
  rw [hw13]
  have L_ba := hide (show w12.heap.size < w13.heap.size by omega)
  have G_ba := hide HB0.out.size
  replace r_x := (b13.block g_x L_x.out).trans r_x
  replace L_x := hide (Nat.lt_of_lt_of_le L_x.out b13.size)
  replace r_y := (b13.block g_y L_y.out).trans r_y
  replace L_y := hide (Nat.lt_of_lt_of_le L_y.out b13.size)
  replace r_z := (b13.block g_z L_z.out).trans r_z
  replace L_z := hide (Nat.lt_of_lt_of_le L_z.out b13.size)
  replace r_ab := (b13.block g_ab L_ab.out).trans r_ab
  replace L_ab := hide (Nat.lt_of_lt_of_le L_ab.out b13.size)
  replace K_M1 := hide ((K_M1.out.below b13 (Nat.le_refl _)).more b13.size)
  replace K_M2 := hide ((K_M2.out.below b13 (Nat.le_refl _)).more b13.size)
  replace K_M3 := hide ((K_M3.out.below b13 (Nat.le_refl _)).more b13.size)
  replace K_AB := hide ((K_AB.out.below b13 (Nat.le_refl _)).more b13.size)
  replace K_BA := hide ((K_BA.out.below b13 (Nat.le_refl _)).more b13.size)
  replace HB0 := hide (HB0.out.trans (b13.mono HB0.out.size))
  obtain ⟨g_ba, hg13⟩ : ∃ g, g = w12.heap.size := ⟨_, rfl⟩
  rw [← hg13] at r_ba L_ba G_ba ⊢
  clear hw13 z13 b13 hg13
  go_wp2_with fail
  refine (join_kn w13 M2 M3 b c _ _ _ _ K_M2.out K_M3.out OB.out OC.out).mono ?_
  rintro e w14 ⟨BC, rfl, v_BC, c_BC, k_BC, b_BC⟩
  dsimp only
  replace r_x := (b_BC.block g_x L_x.out).trans r_x
  replace L_x := hide (Nat.lt_of_lt_of_le L_x.out b_BC.size)
  replace r_y := (b_BC.block g_y L_y.out).trans r_y
  replace L_y := hide (Nat.lt_of_lt_of_le L_y.out b_BC.size)
  replace r_z := (b_BC.block g_z L_z.out).trans r_z
  replace L_z := hide (Nat.lt_of_lt_of_le L_z.out b_BC.size)
  replace r_ab := (b_BC.block g_ab L_ab.out).trans r_ab
  replace L_ab := hide (Nat.lt_of_lt_of_le L_ab.out b_BC.size)
  replace r_ba := (b_BC.block g_ba L_ba.out).trans r_ba
  replace L_ba := hide (Nat.lt_of_lt_of_le L_ba.out b_BC.size)
  replace K_M1 := hide ((K_M1.out.below b_BC (Nat.le_refl _)).more b_BC.size)
  replace K_M2 := hide ((K_M2.out.below b_BC (Nat.le_refl _)).more b_BC.size)
  replace K_M3 := hide ((K_M3.out.below b_BC (Nat.le_refl _)).more b_BC.size)
  replace K_AB := hide ((K_AB.out.below b_BC (Nat.le_refl _)).more b_BC.size)
  replace K_BA := hide ((K_BA.out.below b_BC (Nat.le_refl _)).more b_BC.size)
  replace HB0 := hide (HB0.out.trans (b_BC.mono HB0.out.size))
  have K_BC := hide k_BC
  have s_BC := K_BC.out.rc.size
  have x_BC := K_BC.out.rc.x0
  have o_BC := K_BC.out.rc.one
  clear k_BC b_BC
  have OBC := hide (joinK_ok OB.out OC.out)
  go_upto_region 9 with (fail)
  obtain ⟨w15, hw15, r_bc, z15, b15⟩ := alloc_nam w14 (.cells BC 34)
  rw [hw15]
  have L_bc := hide (show w14.heap.size < w15.heap.size by omega)
  have G_bc := hide HB0.out.size
  replace r_x := (b15.block g_x L_x.out).trans r_x
  replace L_x := hide (Nat.lt_of_lt_of_le L_x.out b15.size)
  replace r_y := (b15.block g_y L_y.out).trans r_y
  replace L_y := hide (Nat.lt_of_lt_of_le L_y.out b15.size)
  replace r_z := (b15.block g_z L_z.out).trans r_z
  replace L_z := hide (Nat.lt_of_lt_of_le L_z.out b15.size)
  replace r_ab := (b15.block g_ab L_ab.out).trans r_ab
  replace L_ab := hide (Nat.lt_of_lt_of_le L_ab.out b15.size)
  replace r_ba := (b15.block g_ba L_ba.out).trans r_ba
  replace L_ba := hide (Nat.lt_of_lt_of_le L_ba.out b15.size)
  replace K_M1 := hide ((K_M1.out.below b15 (Nat.le_refl _)).more b15.size)
  replace K_M2 := hide ((K_M2.out.below b15 (Nat.le_refl _)).more b15.size)
  replace K_M3 := hide ((K_M3.out.below b15 (Nat.le_refl _)).more b15.size)
  replace K_AB := hide ((K_AB.out.below b15 (Nat.le_refl _)).more b15.size)
  replace K_BA := hide ((K_BA.out.below b15 (Nat.le_refl _)).more b15.size)
  replace K_BC := hide ((K_BC.out.below b15 (Nat.le_refl _)).more b15.size)
  replace HB0 := hide (HB0.out.trans (b15.mono HB0.out.size))
  obtain ⟨g_bc, hg15⟩ : ∃ g, g = w14.heap.size := ⟨_, rfl⟩
  rw [← hg15] at r_bc L_bc G_bc ⊢
  clear hw15 z15 b15 hg15
  go_wp2_with fail
  refine (join_kn w15 AB M3 (joinK a b) c _ _ _ _ K_AB.out K_M3.out OAB.out OC.out).mono ?_
  rintro e w16 ⟨L, rfl, v_L, c_L, k_L, b_L⟩
  dsimp only
  replace r_x := (b_L.block g_x L_x.out).trans r_x
  replace L_x := hide (Nat.lt_of_lt_of_le L_x.out b_L.size)
  replace r_y := (b_L.block g_y L_y.out).trans r_y
  replace L_y := hide (Nat.lt_of_lt_of_le L_y.out b_L.size)
  replace r_z := (b_L.block g_z L_z.out).trans r_z
  replace L_z := hide (Nat.lt_of_lt_of_le L_z.out b_L.size)
  replace r_ab := (b_L.block g_ab L_ab.out).trans r_ab
  replace L_ab := hide (Nat.lt_of_lt_of_le L_ab.out b_L.size)
  replace r_ba := (b_L.block g_ba L_ba.out).trans r_ba
  replace L_ba := hide (Nat.lt_of_lt_of_le L_ba.out b_L.size)
  replace r_bc := (b_L.block g_bc L_bc.out).trans r_bc
  replace L_bc := hide (Nat.lt_of_lt_of_le L_bc.out b_L.size)
  replace K_M1 := hide ((K_M1.out.below b_L (Nat.le_refl _)).more b_L.size)
  replace K_M2 := hide ((K_M2.out.below b_L (Nat.le_refl _)).more b_L.size)
  replace K_M3 := hide ((K_M3.out.below b_L (Nat.le_refl _)).more b_L.size)
  replace K_AB := hide ((K_AB.out.below b_L (Nat.le_refl _)).more b_L.size)
  replace K_BA := hide ((K_BA.out.below b_L (Nat.le_refl _)).more b_L.size)
  replace K_BC := hide ((K_BC.out.below b_L (Nat.le_refl _)).more b_L.size)
  replace HB0 := hide (HB0.out.trans (b_L.mono HB0.out.size))
  have K_L := hide k_L
  have s_L := K_L.out.rc.size
  have x_L := K_L.out.rc.x0
  have o_L := K_L.out.rc.one
  clear k_L b_L
  have OL := hide (joinK_ok OAB.out OC.out)
  go_upto_region 10 with (fail)
  obtain ⟨w17, hw17, r_l, z17, b17⟩ := alloc_nam w16 (.cells L 34)
  rw [hw17]
  have L_l := hide (show w16.heap.size < w17.heap.size by omega)
  have G_l := hide HB0.out.size
  replace r_x := (b17.block g_x L_x.out).trans r_x
  replace L_x := hide (Nat.lt_of_lt_of_le L_x.out b17.size)
  replace r_y := (b17.block g_y L_y.out).trans r_y
  replace L_y := hide (Nat.lt_of_lt_of_le L_y.out b17.size)
  replace r_z := (b17.block g_z L_z.out).trans r_z
  replace L_z := hide (Nat.lt_of_lt_of_le L_z.out b17.size)
  replace r_ab := (b17.block g_ab L_ab.out).trans r_ab
  replace L_ab := hide (Nat.lt_of_lt_of_le L_ab.out b17.size)
  replace r_ba := (b17.block g_ba L_ba.out).trans r_ba
  replace L_ba := hide (Nat.lt_of_lt_of_le L_ba.out b17.size)
  replace r_bc := (b17.block g_bc L_bc.out).trans r_bc
  replace L_bc := hide (Nat.lt_of_lt_of_le L_bc.out b17.size)
  replace K_M1 := hide ((K_M1.out.below b17 (Nat.le_refl _)).more b17.size)
  replace K_M2 := hide ((K_M2.out.below b17 (Nat.le_refl _)).more b17.size)
  replace K_M3 := hide ((K_M3.out.below b17 (Nat.le_refl _)).more b17.size)
  replace K_AB := hide ((K_AB.out.below b17 (Nat.le_refl _)).more b17.size)
  replace K_BA := hide ((K_BA.out.below b17 (Nat.le_refl _)).more b17.size)
  replace K_BC := hide ((K_BC.out.below b17 (Nat.le_refl _)).more b17.size)
  replace K_L := hide ((K_L.out.below b17 (Nat.le_refl _)).more b17.size)
  replace HB0 := hide (HB0.out.trans (b17.mono HB0.out.size))
  obtain ⟨g_l, hg17⟩ : ∃ g, g = w16.heap.size := ⟨_, rfl⟩
  rw [← hg17] at r_l L_l G_l ⊢
  clear hw17 z17 b17 hg17
  go_wp2_with fail
  refine (join_kn w17 M1 BC a (joinK b c) _ _ _ _ K_M1.out K_BC.out OA.out OBC.out).mono ?_
  rintro e w18 ⟨R, rfl, v_R, c_R, k_R, b_R⟩
  dsimp only
  replace r_x := (b_R.block g_x L_x.out).trans r_x
  replace L_x := hide (Nat.lt_of_lt_of_le L_x.out b_R.size)
  replace r_y := (b_R.block g_y L_y.out).trans r_y
  replace L_y := hide (Nat.lt_of_lt_of_le L_y.out b_R.size)
  replace r_z := (b_R.block g_z L_z.out).trans r_z
  replace L_z := hide (Nat.lt_of_lt_of_le L_z.out b_R.size)
  replace r_ab := (b_R.block g_ab L_ab.out).trans r_ab
  replace L_ab := hide (Nat.lt_of_lt_of_le L_ab.out b_R.size)
  replace r_ba := (b_R.block g_ba L_ba.out).trans r_ba
  replace L_ba := hide (Nat.lt_of_lt_of_le L_ba.out b_R.size)
  replace r_bc := (b_R.block g_bc L_bc.out).trans r_bc
  replace L_bc := hide (Nat.lt_of_lt_of_le L_bc.out b_R.size)
  replace r_l := (b_R.block g_l L_l.out).trans r_l
  replace L_l := hide (Nat.lt_of_lt_of_le L_l.out b_R.size)
  replace K_M1 := hide ((K_M1.out.below b_R (Nat.le_refl _)).more b_R.size)
  replace K_M2 := hide ((K_M2.out.below b_R (Nat.le_refl _)).more b_R.size)
  replace K_M3 := hide ((K_M3.out.below b_R (Nat.le_refl _)).more b_R.size)
  replace K_AB := hide ((K_AB.out.below b_R (Nat.le_refl _)).more b_R.size)
  replace K_BA := hide ((K_BA.out.below b_R (Nat.le_refl _)).more b_R.size)
  replace K_BC := hide ((K_BC.out.below b_R (Nat.le_refl _)).more b_R.size)
  replace K_L := hide ((K_L.out.below b_R (Nat.le_refl _)).more b_R.size)
  replace HB0 := hide (HB0.out.trans (b_R.mono HB0.out.size))
  have K_R := hide k_R
  have s_R := K_R.out.rc.size
  have x_R := K_R.out.rc.x0
  have o_R := K_R.out.rc.one
  clear k_R b_R
  go_upto_region 11 with (fail)
  obtain ⟨w19, hw19, r_r, z19, b19⟩ := alloc_nam w18 (.cells R 34)
  rw [hw19]
  have L_r := hide (show w18.heap.size < w19.heap.size by omega)
  have G_r := hide HB0.out.size
  replace r_x := (b19.block g_x L_x.out).trans r_x
  replace L_x := hide (Nat.lt_of_lt_of_le L_x.out b19.size)
  replace r_y := (b19.block g_y L_y.out).trans r_y
  replace L_y := hide (Nat.lt_of_lt_of_le L_y.out b19.size)
  replace r_z := (b19.block g_z L_z.out).trans r_z
  replace L_z := hide (Nat.lt_of_lt_of_le L_z.out b19.size)
  replace r_ab := (b19.block g_ab L_ab.out).trans r_ab
  replace L_ab := hide (Nat.lt_of_lt_of_le L_ab.out b19.size)
  replace r_ba := (b19.block g_ba L_ba.out).trans r_ba
  replace L_ba := hide (Nat.lt_of_lt_of_le L_ba.out b19.size)
  replace r_bc := (b19.block g_bc L_bc.out).trans r_bc
  replace L_bc := hide (Nat.lt_of_lt_of_le L_bc.out b19.size)
  replace r_l := (b19.block g_l L_l.out).trans r_l
  replace L_l := hide (Nat.lt_of_lt_of_le L_l.out b19.size)
  replace K_M1 := hide ((K_M1.out.below b19 (Nat.le_refl _)).more b19.size)
  replace K_M2 := hide ((K_M2.out.below b19 (Nat.le_refl _)).more b19.size)
  replace K_M3 := hide ((K_M3.out.below b19 (Nat.le_refl _)).more b19.size)
  replace K_AB := hide ((K_AB.out.below b19 (Nat.le_refl _)).more b19.size)
  replace K_BA := hide ((K_BA.out.below b19 (Nat.le_refl _)).more b19.size)
  replace K_BC := hide ((K_BC.out.below b19 (Nat.le_refl _)).more b19.size)
  replace K_L := hide ((K_L.out.below b19 (Nat.le_refl _)).more b19.size)
  replace K_R := hide ((K_R.out.below b19 (Nat.le_refl _)).more b19.size)
  replace HB0 := hide (HB0.out.trans (b19.mono HB0.out.size))
  obtain ⟨g_r, hg19⟩ : ∃ g, g = w18.heap.size := ⟨_, rfl⟩
  rw [← hg19] at r_r L_r G_r ⊢
  clear hw19 z19 b19 hg19
  go_wp2_with fail
  refine (join_kn w19 M1 M1 a a _ _ _ _ K_M1.out K_M1.out OA.out OA.out).mono ?_
  rintro e w20 ⟨S, rfl, v_S, c_S, k_S, b_S⟩
  dsimp only
  replace r_x := (b_S.block g_x L_x.out).trans r_x
  replace L_x := hide (Nat.lt_of_lt_of_le L_x.out b_S.size)
  replace r_y := (b_S.block g_y L_y.out).trans r_y
  replace L_y := hide (Nat.lt_of_lt_of_le L_y.out b_S.size)
  replace r_z := (b_S.block g_z L_z.out).trans r_z
  replace L_z := hide (Nat.lt_of_lt_of_le L_z.out b_S.size)
  replace r_ab := (b_S.block g_ab L_ab.out).trans r_ab
  replace L_ab := hide (Nat.lt_of_lt_of_le L_ab.out b_S.size)
  replace r_ba := (b_S.block g_ba L_ba.out).trans r_ba
  replace L_ba := hide (Nat.lt_of_lt_of_le L_ba.out b_S.size)
  replace r_bc := (b_S.block g_bc L_bc.out).trans r_bc
  replace L_bc := hide (Nat.lt_of_lt_of_le L_bc.out b_S.size)
  replace r_l := (b_S.block g_l L_l.out).trans r_l
  replace L_l := hide (Nat.lt_of_lt_of_le L_l.out b_S.size)
  replace r_r := (b_S.block g_r L_r.out).trans r_r
  replace L_r := hide (Nat.lt_of_lt_of_le L_r.out b_S.size)
  replace K_M1 := hide ((K_M1.out.below b_S (Nat.le_refl _)).more b_S.size)
  replace K_M2 := hide ((K_M2.out.below b_S (Nat.le_refl _)).more b_S.size)
  replace K_M3 := hide ((K_M3.out.below b_S (Nat.le_refl _)).more b_S.size)
  replace K_AB := hide ((K_AB.out.below b_S (Nat.le_refl _)).more b_S.size)
  replace K_BA := hide ((K_BA.out.below b_S (Nat.le_refl _)).more b_S.size)
  replace K_BC := hide ((K_BC.out.below b_S (Nat.le_refl _)).more b_S.size)
  replace K_L := hide ((K_L.out.below b_S (Nat.le_refl _)).more b_S.size)
  replace K_R := hide ((K_R.out.below b_S (Nat.le_refl _)).more b_S.size)
  replace HB0 := hide (HB0.out.trans (b_S.mono HB0.out.size))
  have K_S := hide k_S
  have s_S := K_S.out.rc.size
  have x_S := K_S.out.rc.x0
  have o_S := K_S.out.rc.one
  clear k_S b_S
  go_upto_region 12 with (fail)
  obtain ⟨w21, hw21, r_s, z21, b21⟩ := alloc_nam w20 (.cells S 34)
  rw [hw21]
  have L_s := hide (show w20.heap.size < w21.heap.size by omega)
  have G_s := hide HB0.out.size
  replace r_x := (b21.block g_x L_x.out).trans r_x
  replace L_x := hide (Nat.lt_of_lt_of_le L_x.out b21.size)
  replace r_y := (b21.block g_y L_y.out).trans r_y
  replace L_y := hide (Nat.lt_of_lt_of_le L_y.out b21.size)
  replace r_z := (b21.block g_z L_z.out).trans r_z
  replace L_z := hide (Nat.lt_of_lt_of_le L_z.out b21.size)
  replace r_ab := (b21.block g_ab L_ab.out).trans r_ab
  replace L_ab := hide (Nat.lt_of_lt_of_le L_ab.out b21.size)
  replace r_ba := (b21.block g_ba L_ba.out).trans r_ba
  replace L_ba := hide (Nat.lt_of_lt_of_le L_ba.out b21.size)
  replace r_bc := (b21.block g_bc L_bc.out).trans r_bc
  replace L_bc := hide (Nat.lt_of_lt_of_le L_bc.out b21.size)
  replace r_l := (b21.block g_l L_l.out).trans r_l
  replace L_l := hide (Nat.lt_of_lt_of_le L_l.out b21.size)
  replace r_r := (b21.block g_r L_r.out).trans r_r
  replace L_r := hide (Nat.lt_of_lt_of_le L_r.out b21.size)
  replace K_M1 := hide ((K_M1.out.below b21 (Nat.le_refl _)).more b21.size)
  replace K_M2 := hide ((K_M2.out.below b21 (Nat.le_refl _)).more b21.size)
  replace K_M3 := hide ((K_M3.out.below b21 (Nat.le_refl _)).more b21.size)
  replace K_AB := hide ((K_AB.out.below b21 (Nat.le_refl _)).more b21.size)
  replace K_BA := hide ((K_BA.out.below b21 (Nat.le_refl _)).more b21.size)
  replace K_BC := hide ((K_BC.out.below b21 (Nat.le_refl _)).more b21.size)
  replace K_L := hide ((K_L.out.below b21 (Nat.le_refl _)).more b21.size)
  replace K_R := hide ((K_R.out.below b21 (Nat.le_refl _)).more b21.size)
  replace K_S := hide ((K_S.out.below b21 (Nat.le_refl _)).more b21.size)
  replace HB0 := hide (HB0.out.trans (b21.mono HB0.out.size))
  obtain ⟨g_s, hg21⟩ : ∃ g, g = w20.heap.size := ⟨_, rfl⟩
  rw [← hg21] at r_s L_s G_s ⊢
  clear hw21 z21 b21 hg21
  go_upto_region 14 with (fail)
  have FB := hide HB0.out
  have HF : Hid (∀ (p : BW w21) (w' : World), Below p.w.heap.size p.w w' → Below w.heap.size w w') := hide fun p w' hb => FB.out.trans ((p.below.trans (hb.mono p.below.size)).mono FB.out.size)
  have R_x : ∀ p : BW w21, p.w.heap[g_x]? = some (.cells M1 34 (0, 0)) := fun p => p.block r_x
  have R_y : ∀ p : BW w21, p.w.heap[g_y]? = some (.cells M2 34 (0, 0)) := fun p => p.block r_y
  have R_ab : ∀ p : BW w21, p.w.heap[g_ab]? = some (.cells AB 34 (0, 0)) := fun p => p.block r_ab
  have R_ba : ∀ p : BW w21, p.w.heap[g_ba]? = some (.cells BA 34 (0, 0)) := fun p => p.block r_ba
  have R_l : ∀ p : BW w21, p.w.heap[g_l]? = some (.cells L 34 (0, 0)) := fun p => p.block r_l
  have R_r : ∀ p : BW w21, p.w.heap[g_r]? = some (.cells R 34 (0, 0)) := fun p => p.block r_r
  have R_s : ∀ p : BW w21, p.w.heap[g_s]? = some (.cells S 34 (0, 0)) := fun p => p.block r_s
  have F1 : Hid (∀ p : BW w21, Calls Try.prog 14 #[.agg AB, .agg BA] p.w (BoolP p.w true)) := hide fun p => by
      have := sameK_any p.w w21.heap.size AB BA (joinK a b) (joinK b a) _ _ _ _ (K_AB.out.below p.below (Nat.le_refl _)) (K_BA.out.below p.below (Nat.le_refl _)) p.below.size
      rwa [grows_comm OA.out OB.out] at this
  have F2 : Hid (∀ p : BW w21, Calls Try.prog 14 #[.agg L, .agg R] p.w (BoolP p.w true)) := hide fun p => by
      have := sameK_any p.w w21.heap.size L R (joinK (joinK a b) c) (joinK a (joinK b c)) _ _ _ _ (K_L.out.below p.below (Nat.le_refl _)) (K_R.out.below p.below (Nat.le_refl _)) p.below.size
      rwa [grows_assoc OA.out OB.out OC.out] at this
  have F3 : Hid (∀ p : BW w21, Calls Try.prog 14 #[.agg S, .agg M1] p.w (BoolP p.w true)) := hide fun p => by
      have := sameK_any p.w w21.heap.size S M1 (joinK a a) a _ _ _ _ (K_S.out.below p.below (Nat.le_refl _)) (K_M1.out.below p.below (Nat.le_refl _)) p.below.size
      rwa [grows_self OA.out] at this
  have F4 : Hid (∀ p : BW w21, Calls Try.prog 15 #[.agg M1, .agg AB] p.w (BoolP p.w true)) := hide fun p => by
      have := withinK_any p.w w21.heap.size M1 AB a (joinK a b) _ _ _ _ (K_M1.out.below p.below (Nat.le_refl _)) (K_AB.out.below p.below (Nat.le_refl _)) p.below.size
      rwa [grows_within OA.out OB.out] at this
  have F5 : Hid (∀ p : BW w21, Calls Try.prog 15 #[.agg M2, .agg AB] p.w (BoolP p.w true)) := hide fun p => by
      have := withinK_any p.w w21.heap.size M2 AB b (joinK a b) _ _ _ _ (K_M2.out.below p.below (Nat.le_refl _)) (K_AB.out.below p.below (Nat.le_refl _)) p.below.size
      rwa [grows_within' OA.out OB.out] at this
  have F6 : Hid (∀ p : BW w21, Calls Try.prog 11 #[.agg L] p.w (BoolP p.w true)) := hide fun p => by
      have := rightK_any p.w w21.heap.size L _ _ _ (K_L.out.below p.below (Nat.le_refl _)) p.below.size
      rwa [OL.out.1] at this
  have FK : Hid (∀ p : BW w21, Calls Try.prog 12 #[] p.w (BoolP p.w true)) := hide fun p => knownL_any p.w
  have CA := hide (K_AB.out.rc.cells r_ab)
  have CX := hide (K_M1.out.rc.cells r_x)
  have GG := hide (grows_g OA.out OB.out)
  have GS := hide (grows_same OA.out OB.out)
  obtain ⟨c0, c1, -, c23⟩ := CA.out
  obtain ⟨d0, d1, -, d23⟩ := CX.out
  simp only [Kn.rc] at c0 c1 c23 d0 d1 d23
  obtain ⟨jg, hjg⟩ : ∃ x, x = (joinK a b).g := ⟨_, rfl⟩
  obtain ⟨jl, hjl⟩ : ∃ x, x = (joinK a b).l := ⟨_, rfl⟩
  obtain ⟨jd, hjd⟩ : ∃ x, x = (joinK a b).dn := ⟨_, rfl⟩
  obtain ⟨ag, hag⟩ : ∃ x, x = a.g := ⟨_, rfl⟩
  obtain ⟨al, hal⟩ : ∃ x, x = a.l := ⟨_, rfl⟩
  obtain ⟨ad, had⟩ : ∃ x, x = a.dn := ⟨_, rfl⟩
  rw [← hjg, ← hag, ← hjl, ← hal, ← hjd, ← had] at GS
  rw [← hjg, ← hag] at GG
  rw [← hjg] at c0
  rw [← hjl] at c1
  rw [← hjd] at c23
  rw [← hag] at d0
  rw [← hal] at d1
  rw [← had] at d23
  have C0 : ∀ p : BW w21, p.w.cell? ⟨g_ab, 0, none⟩ = some (.int .i64 jg) := fun p => p.cell c0
  have C1 : ∀ p : BW w21, p.w.cell? ⟨g_ab, 1, none⟩ = some (.int .i64 jl) := fun p => p.cell c1
  have C2 : ∀ p : BW w21, p.w.cell? ⟨g_ab, 23, none⟩ = some (.int .i64 jd) := fun p => p.cell c23
  have D0 : ∀ p : BW w21, p.w.cell? ⟨g_x, 0, none⟩ = some (.int .i64 ag) := fun p => p.cell d0
  have D1 : ∀ p : BW w21, p.w.cell? ⟨g_x, 1, none⟩ = some (.int .i64 al) := fun p => p.cell d1
  have D2 : ∀ p : BW w21, p.w.cell? ⟨g_x, 23, none⟩ = some (.int .i64 ad) := fun p => p.cell d23
  clear c0 c1 c23 d0 d1 d23 hjg hjl hjd hag hal had CA CX
  first | refine wp_region_belowS w21 (Below.refl _ _) ?_ | refine wp_region_below w21 (Below.refl _ _) (by kernel_rfl) (by kernel_rfl) ?_
  repeat
    first
    | (go_big_quiet_step (first
    | ((go_at_call 14; with_reducible exact Calls.bel (F1.out _)))
    | ((go_at_call 14; with_reducible exact Calls.bel (F2.out _)))
    | ((go_at_call 14; with_reducible exact Calls.bel (F3.out _)))
    | ((go_at_call 15; with_reducible exact Calls.bel (F4.out _)))
    | ((go_at_call 15; with_reducible exact Calls.bel (F5.out _)))
    | ((go_at_call 11; with_reducible exact Calls.bel (F6.out _)))
    | fail))
    | (go_big_quiet_want; apply quiet_span; (intro p; go_simp; rfl); (try simp only [Act.put, List.setIfInBounds_toArray, List.set_cons_zero, List.set_cons_succ]); go_big_quiet_on)
  refine wpQuiet_nil ?_
  intro _ hw'
  obtain ⟨pq, hw''⟩ := hw'
  subst hw''
  go_upto_region 16 with (fail)
  have PB := hide pq.below
  have g1 : decide (jg ≥ ag) = true := decide_eq_true GG.out
  obtain ⟨u, hu⟩ : ∃ u, u = decide (jg > ag) := ⟨_, rfl⟩
  have g2 := hu.symm
  cases u
  · have e : jg = ag := by have h1 := GG.out; have h2 := of_decide_eq_false g2; omega
    have g3 : decide (jl ≥ al) = true := decide_eq_true (GS.out e).1
    have g4 : (bits BinOp.and IntKind.i64 jd ad == ad) = true := by rw [(GS.out e).2]; simp
    clear hu e
    first | refine wp_region_belowS w21 PB.out ?_ | refine wp_region_below w21 PB.out (by kernel_rfl) (by kernel_rfl) ?_
    repeat
      first
      | (go_big_quiet_step (first
      | ((go_at_call 12; with_reducible exact Calls.bel (FK.out _)))
      | fail))
      | (go_big_quiet_want; apply quiet_span; (intro p; go_simp; rfl); (try simp only [Act.put, List.setIfInBounds_toArray, List.set_cons_zero, List.set_cons_succ]); go_big_quiet_on)
    refine wpQuiet_nil ?_
    intro _ hw'
    obtain ⟨pz, hw''⟩ := hw'
    subst hw''
    go_wp2
    go_ret
    exact ⟨rfl, HF.out pz _ (Below.refl _ _)⟩
  · clear hu
    first | refine wp_region_belowS w21 PB.out ?_ | refine wp_region_below w21 PB.out (by kernel_rfl) (by kernel_rfl) ?_
    repeat
      first
      | (go_big_quiet_step (first
      | ((go_at_call 12; with_reducible exact Calls.bel (FK.out _)))
      | fail))
      | (go_big_quiet_want; apply quiet_span; (intro p; go_simp; rfl); (try simp only [Act.put, List.setIfInBounds_toArray, List.set_cons_zero, List.set_cons_succ]); go_big_quiet_on)
    refine wpQuiet_nil ?_
    intro _ hw'
    obtain ⟨pz, hw''⟩ := hw'
    subst hw''
    go_wp2
    go_ret
    exact ⟨rfl, HF.out pz _ (Below.refl _ _)⟩
end Go.Proofs.Ytmbddengmheeeaa
