/-
  The walk of the statement WheelSteps.
-/
import Derived.Test.YtjdedlmphghpnaaWie
namespace Go.Proofs.Ytjdedlmphghpnaa
open Go.RowKit
set_option maxRecDepth 100000
set_option linter.unusedVariables false
set_option linter.unusedSimpArgs false

/-- what a call of a list reads, wherever the list is kept. -/
theorem ActsW.reads {w : World} {A : Option Addr} {l : List (Int × Int × Int)} (h : ActsW w w.heap.size A l) {j : Nat} (hj : j < l.length) :
    ∃ b o, A = some ⟨b, o, none⟩ ∧ ∀ W, Below w.heap.size w W → ∀ p : BW W, p.w.cell? ⟨b, o + j * 3 + 1, none⟩ = some (.int .i64 l[j].2.1) ∧ p.w.cell? ⟨b, o + j * 3 + 2, none⟩ = some (.int .i64 l[j].2.2) := by
  obtain ⟨b, o, e, hb, hc⟩ := h (by omega)
  obtain ⟨-, e1, e2⟩ := hc j hj
  exact ⟨b, o, e, fun W hB p => ⟨p.cell ((hB.cell (p := ⟨b, _, none⟩) hb).trans e1), p.cell ((hB.cell (p := ⟨b, _, none⟩) hb).trans e2)⟩⟩
/-- the append of two rows, one behind the other. -/
theorem app_two_rows (w : World) (b0 : Nat) (t1 t2 : Value) (T1 T2 : List (Int × Int)) (h1 : w.ownsRow b0 43 2 t1 T1.length (rowD T1)) (h2 : w.ownsRow b0 43 2 t2 T2.length (rowD T2)) (hn : T1.length + T2.length ≤ 100000) :
    ∃ v1 w1 v2 w2, (Builtin.append_ #[34, 34] 34 #[.slice none 0 0, t1]).run Try.prog w = .ok v1 w1 ∧ (Builtin.append_ #[34, 34] 34 #[v1, t2]).run Try.prog w1 = .ok v2 w2 ∧
      w2.ownsRow w.heap.size 43 2 v2 (T1 ++ T2).length (rowD (T1 ++ T2)) ∧ Below w.heap.size w w2 := by
  obtain ⟨v1, w1, a1, a2, a3, -⟩ := app_rows w w.heap.size b0 34 (.slice none 0 0) t1 0 T1.length [] (rowD T1) (World.ownsRow_nil _ _ _ _) h1 (rowD_one _) (by omega) (Nat.le_refl _)
  have B1 : Below w.heap.size w w1 := (Below.refl _ _).grown a3 (Nat.le_refl _) (fun k hk => by simp [Value.ownBlock] at hk)
  have h2' : w1.ownsRow b0 43 2 t2 T2.length (rowD T2) := row_bel h2 B1
  obtain ⟨v2, w2, c1, c2, c3, -⟩ := app_rows w1 w.heap.size b0 34 v1 t2 (0 + T1.length) T2.length ([] ++ rowD T1) (rowD T2) a2 h2' (rowD_one _) (by omega) B1.size
  refine ⟨v1, w1, v2, w2, a1, c1, ?_, B1.grown c3 B1.size (fun k hk => (a2.lt k hk).1)⟩
  rw [rowD_app, List.length_append]
  have : 0 + T1.length + T2.length = T1.length + T2.length := by omega
  rw [this] at c2
  exact c2
set_option maxHeartbeats 16000000 in
theorem wheelSteps_any (w : World) (A1 : Option Addr) (c1 : Nat) (l1 : List (Int × Int × Int)) (a b : Int) (h1 : ActsW w w.heap.size A1 l1) (hl1 : l1.length ≤ 4611686018427387904) (ha : -9223372036854775808 ≤ a ∧ a ≤ 9223372036854775807) (hb : -9223372036854775808 ≤ b ∧ b ≤ 9223372036854775807) :
    Calls Try.prog 5 #[.slice A1 l1.length c1, .int .i64 a, .int .i64 b] w fun e w' => e = .returned (.bool true) ∧ Below w.heap.size w w' := by
  have KN1 := hide (newW_any w 0)
  have KN2 := hide (fun W => newW_any W 0)
  have HI1 := hide h1
  obtain ⟨n1, hn1⟩ : ∃ n, n = l1.length := ⟨_, rfl⟩
  rw [← hn1] at hl1
  rw [← hn1]
  have HN1 := hide hn1
  clear h1 hn1
  go_enter Try.func5, Try.ntmps5
  go_upto_region 2 with (first | (go_at_call 9; (with_reducible refine KN1.out.mono ?_); rintro e w1 ⟨hbl, ⟨-, pv, F, rfl, hp, hw, hF⟩ | ⟨hn, -⟩⟩; rotate_left; exact absurd (by decide) hn; have H1 := hide (And.intro hbl (And.intro hp (And.intro hw hF))); clear hbl hp hw hF; dsimp only) | fail)
  clear KN1
  go_upto_region 3 with (first | (go_at_call 9; (with_reducible refine (KN2.out _).mono ?_); rintro e w2 ⟨hbl, ⟨-, pw, G, rfl, hq, hv, hG⟩ | ⟨hn, -⟩⟩; rotate_left; exact absurd (by decide) hn; have HP := hide (PairW.new H1.out.1 H1.out.2.2.1 H1.out.2.2.2 H1.out.2.1 hbl hv hG hq); clear hbl hq hv hG H1; dsimp only) | fail)
  clear KN2
  by_cases hok : 0 ≤ a ∧ a ≤ b ∧ b ≤ 1099511627776
  · have x1 : ¬ a < 0 := by omega
    have x2 : ¬ b < a := by omega
    have x3 : ¬ b > 1099511627776 := by omega
    have x4 : ¬ 1099511627776 < b := by omega
    have HA0 : Hid (∃ D, PairW w w2 pv pw 0 0 D D []) := hide ⟨_, HP.out⟩
    clear HP
    go_upto_region 8 with (fail)
    go_loopw [11] (fun si wr => ∃ (j : Nat), j ≤ 100 ∧ si = .int .i64 (j : Int) ∧ Hid (∃ D, PairW w wr pv pw 0 0 D D [])) (fun si _ => 100 - (Go.RowKit.intOf si).toNat)
    case atStart => exact ⟨0, by omega, rfl, HA0⟩
    case round =>
      obtain ⟨j, hj, rfl, hI⟩ := hrel
      clear HA0
      have hj0 : (0 : Int) ≤ (j : Int) := by omega
      by_cases hlt : j < n1 ∧ j < 100
      · obtain ⟨hal, hcl⟩ := hlt
        have hjl : j < l1.length := by rw [← HN1.out]; exact hal
        obtain ⟨b1, o1, rfl, hrd⟩ := HI1.out.reads hjl
        obtain ⟨D, hP⟩ := hI.out
        obtain ⟨id, hid⟩ : ∃ x, x = l1[j].2.1 := ⟨_, rfl⟩
        obtain ⟨at_, hat⟩ : ∃ x, x = l1[j].2.2 := ⟨_, rfl⟩
        rw [← hid, ← hat] at hrd
        have HRD := hide hrd
        have R1 : ∀ p : BW wr, p.w.cell? ⟨b1, o1 + j * 3 + 1, none⟩ = some (.int .i64 id) := fun p => (hrd wr hP.below.1 p).1
        have R2 : ∀ p : BW wr, p.w.cell? ⟨b1, o1 + j * 3 + 2, none⟩ = some (.int .i64 at_) := fun p => (hrd wr hP.below.1 p).2
        have HPj := hide hP
        have hai : (j : Int) < (n1 : Int) := by omega
        have hci : (j : Int) < 100 := by omega
        clear hrd hP hI hid hat
        go_upto_region 10 with (fail)
        refine wp_region_quiet_tail wr (Below.refl _ _) 11 (by kernel_rfl) (by kernel_rfl) ?_
        simp only [List.append_eq, List.cons_append, List.nil_append, List.take_succ_cons, List.take_zero, List.drop_succ_cons, List.drop_zero]
        repeat (go_big_quiet_step (fail))
        refine wpQuiet_nil ?_
        intro _ hw'
        obtain ⟨pq, hw2'⟩ := hw'
        subst hw2'
        have KS := hide ((HPj.out.bel pq.below).set id at_)
        obtain ⟨w5, hw5⟩ : ∃ W, W = pq.w := ⟨_, rfl⟩
        rw [← hw5] at KS ⊢
        clear R1 R2 hw5 pq HPj
        go_upto_region 11 with (first | (go_at_call 12; (with_reducible refine KS.out.mono ?_); rintro e w6 ⟨rfl, hp6⟩; have HP6 := hide hp6; clear hp6; dsimp only) | fail)
        clear KS
        have R1 : ∀ p : BW w6, p.w.cell? ⟨b1, o1 + j * 3 + 1, none⟩ = some (.int .i64 id) := fun p => (HRD.out w6 HP6.out.below.1 p).1
        have R2 : ∀ p : BW w6, p.w.cell? ⟨b1, o1 + j * 3 + 2, none⟩ = some (.int .i64 at_) := fun p => (HRD.out w6 HP6.out.below.1 p).2
        refine wp_region_quiet_tail w6 (Below.refl _ _) 11 (by kernel_rfl) (by kernel_rfl) ?_
        simp only [List.append_eq, List.cons_append, List.nil_append, List.take_succ_cons, List.take_zero, List.drop_succ_cons, List.drop_zero]
        repeat (go_big_quiet_step (fail))
        refine wpQuiet_nil ?_
        intro _ hw'
        obtain ⟨pq, hw2'⟩ := hw'
        subst hw2'
        have KS := hide ((HP6.out.bel pq.below).swap.set id at_)
        obtain ⟨w7, hw7⟩ : ∃ W, W = pq.w := ⟨_, rfl⟩
        rw [← hw7] at KS ⊢
        clear R1 R2 hw7 pq HP6
        go_wp2_with (first | (go_at_call 12; (with_reducible refine KS.out.mono ?_); rintro e w8 ⟨rfl, hp8⟩; have HP8 : Hid (∃ D, PairW w w8 pv pw 0 0 D D []) := hide ⟨_, hp8.swap⟩; clear hp8; dsimp only) | fail)
        first
          | exact ⟨⟨j + 1, by omega, by go_num, HP8⟩, by simp [Go.RowKit.intOf]; omega⟩
          | (go_roundw
             case rel => exact ⟨j + 1, by omega, by go_num, HP8⟩
             case measure => simp [Go.RowKit.intOf]; omega)
      · have h3 : (j < n1 ∧ ¬ j < 100) ∨ ¬ j < n1 := by omega
        clear hlt
        rcases h3 with ⟨hai, hci⟩ | hai
        all_goals (
          try have hai : (j : Int) < (n1 : Int) := by omega
          try have hai : ¬ (j : Int) < (n1 : Int) := by omega
          try have hci : ¬ (j : Int) < 100 := by omega
          obtain ⟨D, hP⟩ := hI.out
          have hD := hP.ok
          have hDl := hD.len
          have HP := hide hP
          clear hP hI
          go_upto_region 12 with (fail)
          clear hai
          have KA := hide (HP.out.adv (to := a) ⟨by omega, by omega⟩)
          go_upto_region 13 with (first | (go_at_call 16; (with_reducible refine KA.out.mono ?_); rintro e w3 ⟨t1, rfl, hp3⟩; have HP3 := hide hp3; clear hp3; dsimp only) | fail)
          have KB := hide (HP3.out.adv (to := b) ⟨by omega, by omega⟩)
          clear KA HP
          go_upto_region 14 with (first | (go_at_call 16; (with_reducible refine KB.out.mono ?_); rintro e w4 ⟨t2, rfl, hp4⟩; have HP4 := hide hp4.swap; clear hp4; dsimp only) | fail)
          have KC := hide (HP4.out.adv (to := b) ⟨by omega, by omega⟩)
          clear KB HP3
          go_upto_region 15 with (first | (go_at_call 16; (with_reducible refine KC.out.mono ?_); rintro e w5 ⟨t3, rfl, hp5⟩; have HP5 := hide hp5.swap; clear hp5; dsimp only) | fail)
          clear KC HP4
          obtain ⟨hc1, hc2⟩ := cut_two hD.rises (show a ≤ b by omega)
          rw [hc2] at HP5
          obtain ⟨T1, hT1⟩ : ∃ T, T = D.take (cutN a D) := ⟨_, rfl⟩
          obtain ⟨T2, hT2⟩ : ∃ T, T = (D.drop (cutN a D)).take (cutN b (D.drop (cutN a D))) := ⟨_, rfl⟩
          obtain ⟨D2, hD2⟩ : ∃ T, T = D.drop (cutN b D) := ⟨_, rfl⟩
          rw [← hT1, ← hT2] at hc1
          rw [← hT1, ← hT2, ← hD2, ← hc1] at HP5
          have hlen : (T1 ++ T2).length ≤ 4096 := by rw [hc1, List.length_take]; omega
          have hlen' : T1.length + T2.length ≤ 4096 := by rw [← List.length_append]; exact hlen
          have r1 := HP5.out.row (x := (t1, T1)) (by simp)
          have r2 := HP5.out.row (x := (t2, T2)) (by simp)
          have r3 := HP5.out.row (x := (t3, T1 ++ T2)) (by simp)
          dsimp only at r1 r2 r3
          obtain ⟨A3, k3, rfl, -, -, -, hrd3⟩ := RowD.of_own r3
          obtain ⟨v1, w6, v2, w7, hap1, hap2, hown, hb7⟩ := app_two_rows w5 w.heap.size t1 t2 T1 T2 r1 r2 (by omega)
          obtain ⟨A2, k2, rfl, -, -, -, hrd2⟩ := RowD.of_own hown
          have HP7 := hide (HP5.out.bel hb7)
          obtain ⟨T3, hT3⟩ : ∃ T, T = T1 ++ T2 := ⟨_, rfl⟩
          rw [← hT3] at hrd2 hrd3 hlen hap2
          rw [← hT3]
          obtain ⟨n3, hn3⟩ : ∃ n, n = T3.length := ⟨_, rfl⟩
          have HN3 := hide hn3
          rw [← hn3] at hap2 hlen ⊢
          have KT1 := hide (taken18_any w7 A2 n3 k2 T3 hn3.symm hrd2 (by omega))
          have HR3 := hide (hrd3.below hb7)
          clear hc1 hc2 hT1 hT2 hD2 hlen' r1 r2 r3 hrd3 hown hb7 hrd2 hT3 hn3 HP5 hD
          go_upto_region 18 with (first | (at_builtin; refine wpList_append_eq rfl _ _ 34 34 rfl _ _ rfl rfl hap1 ?_) | (at_builtin; refine wpList_append_eq rfl _ _ 34 34 rfl _ _ rfl rfl hap2 ?_) | fail)
          clear hap1 hap2
          go_wp2_with (first
            | (go_at_call 19; (with_reducible refine KT1.out.mono ?_); rintro e w8 ⟨s1, rfl, hv1, hb8⟩; have HP8 := hide (HP7.out.bel hb8); have KT3 := hide (taken18_any w8 A3 n3 k3 T3 HN3.out.symm (HR3.out.below hb8) (by omega)); have HV1 := hide hv1; clear HP7 KT1 HR3 hv1 hb8; dsimp only)
            | (go_at_call 19; (with_reducible refine KT3.out.mono ?_); rintro e w9 ⟨s3, rfl, hv3, hb9⟩; have HP9 := hide (HP8.out.bel hb9); obtain ⟨B1, d1, rfl, -, -, -, hq1⟩ := RowD.of_ref HV1.out; obtain ⟨B3, d3, rfl, -, -, -, hq3⟩ := RowD.of_ref hv3; have KS := hide (same18_any w9 B1 B3 n3 d1 n3 d3 T3 T3 HN3.out.symm HN3.out.symm (hq1.below hb9) hq3 (by omega)); clear HP8 KT3 HV1 hv3 hb9 hq1 hq3; dsimp only)
            | (go_at_call 18; (with_reducible refine KS.out.mono ?_); rintro e w10 ⟨rfl, hb10⟩; have HP10 := hide (HP9.out.bel hb10); clear HP9 KS hb10; dsimp only)
            | (go_at_call 21; (with_reducible refine HP10.out.len.mono ?_); rintro e w11 ⟨rfl, rfl⟩; dsimp only)
            | (go_at_call 21; (with_reducible refine HP10.out.swap.len.mono ?_); rintro e w11 ⟨rfl, rfl⟩; dsimp only)
            | (go_at_call 11; (with_reducible refine (known18_any _).mono ?_); rintro e w12 ⟨rfl, hb12⟩; have HB12 := hide (HP10.out.bel hb12).below.1; clear hb12; dsimp only) | fail)
          go_ret
          exact ⟨by first | rfl | simp, HB12.out⟩)
  · have h3 : a < 0 ∨ (¬ a < 0 ∧ b < a) ∨ (¬ a < 0 ∧ ¬ b < a ∧ b > 1099511627776) := by omega
    clear hok
    rcases h3 with x1 | ⟨x1, x2⟩ | ⟨x1, x2, x3⟩
    all_goals (
      go_wp2_with (first
        | (go_at_call 11; (with_reducible refine (known18_any _).mono ?_); rintro e w12 ⟨rfl, hb12⟩; have HB12 := hide (HP.out.bel hb12).below.1; clear hb12; dsimp only) | fail)
      go_ret
      exact ⟨rfl, HB12.out⟩)
end Go.Proofs.Ytjdedlmphghpnaa
