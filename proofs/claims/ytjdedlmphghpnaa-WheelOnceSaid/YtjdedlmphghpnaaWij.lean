/-
  The walk of the statement WheelOnce.
-/
import Derived.Test.YtjdedlmphghpnaaWih
namespace Go.Proofs.Ytjdedlmphghpnaa
open Go.RowKit
set_option maxRecDepth 100000
set_option linter.unusedVariables false
set_option linter.unusedSimpArgs false
attribute [local go_sem ↓] exec_span exec_put exec_build heap_alloc_new heap_old
attribute [local go_sem] spanQ_ptr spanC_some heap_of_drew heap_of_drewN putAt_ptr putOk_ptr oldOk_some World.setRow_alloc_new rs_Due built_due built_due0 rs_rDue built_rdue

/-- what Advance leaves, whatever the time. -/
def AdvO (w0 w' : World) (pv : Nat) (now to : Int) (av : Value) (M : List Int) (t : Value) (E : Int) (fin : Bool) : Prop :=
  ∃ (now' : Int) (T D' : List (Int × Int)), OneW w0 w' pv now' D' av M ∧ Beside w' t av T ∧ OnceI (T ++ D') M ∧ ((T ++ D').map Prod.fst).Nodup ∧ (∀ q ∈ T, now < q.2 ∧ q.2 ≤ to) ∧ T.length ≤ 4096 ∧ (fin = true → D' = []) ∧ (E = 0 ∨ (E ≠ 0 ∧ T = [] ∧ t = .slice none 0 0 ∧ now' = now))
theorem advO_any {w0 wr : World} {pv : Nat} {now to : Int} {D : List (Int × Int)} {av : Value} {M : List Int} (h : OneW w0 wr pv now D av M) (hI : OnceI D M) (fin : Bool) (hf : fin = true → to = 1099511627776) :
    Calls Try.prog 16 #[.pointer (some ⟨pv, 0, none⟩), .int .i64 to] wr fun e w' => ∃ t E, e = .returned (.tuple #[t, .int .i64 E]) ∧ AdvO w0 w' pv now to av M t E fin := by
  have hok := h.ok
  by_cases hto : now ≤ to ∧ to ≤ 1099511627776
  · refine (h.adv hto).mono ?_
    rintro e w' ⟨t, rfl, h1, h2⟩
    refine ⟨t, 0, rfl, to, _, _, h1, h2, ?_, ?_, fun q hq => ⟨(hok.low q (List.mem_of_mem_take hq)).1, ?_⟩, ?_, fun hfin => ?_, .inl rfl⟩
    · rw [List.take_append_drop]; exact hI
    · rw [List.take_append_drop]; exact hok.ids
    · rw [(cut_take to hok.rises).1, List.mem_filter] at hq
      exact of_decide_eq_true hq.2
    · rw [List.length_take]; have := hok.len; omega
    · rw [(cut_take to hok.rises).2, List.filter_eq_nil_iff]
      intro q hq
      have := (hok.low q hq).2
      have := hf hfin
      simp; omega
  · refine (h.advX (by omega)).mono ?_
    rintro e w' ⟨rfl, rfl⟩
    have hE : advE now to ≠ 0 := by unfold advE; split <;> decide
    refine ⟨_, _, rfl, now, [], D, h, ⟨World.ownsRow_nil _ _ _ _, .inl rfl⟩, hI, hok.ids, fun q hq => by simp at hq, Nat.zero_le _, fun hfin => ?_, .inr ⟨hE, rfl, rfl, rfl⟩⟩
    have := hf hfin
    have := hok.clock
    omega
set_option maxHeartbeats 32000000 in
theorem wheelOnce_any (w : World) (A1 : Option Addr) (c1 : Nat) (l1 : List Int) (A2 : Option Addr) (c2 : Nat) (l2 : List Int) (h1 : IntS w w.heap.size A1 l1) (hl1 : l1.length ≤ 4611686018427387904) (h2 : IntS w w.heap.size A2 l2) (hl2 : l2.length ≤ 4611686018427387904) :
    Calls Try.prog 4 #[.slice A1 l1.length c1, .slice A2 l2.length c2] w fun e w' => e = .returned (.bool true) ∧ Below w.heap.size w w' := by
  have KN1 := hide (newW_any w 0)
  have HI1 := hide h1
  have HI2 := hide h2
  obtain ⟨n1, hn1⟩ : ∃ n, n = l1.length := ⟨_, rfl⟩
  obtain ⟨n2, hn2⟩ : ∃ n, n = l2.length := ⟨_, rfl⟩
  rw [← hn1] at hl1
  rw [← hn1]
  rw [← hn2] at hl2
  rw [← hn2]
  have HN1 := hide hn1
  have HN2 := hide hn2
  clear h1 hn1 h2 hn2
  go_enter Try.func4, Try.ntmps4
  go_upto_region 2 with (first | (go_at_call 9; (with_reducible refine KN1.out.mono ?_); rintro e w1 ⟨hbl, ⟨-, pv, F, rfl, hp, hw, hF⟩ | ⟨hn, -⟩⟩; rotate_left; exact absurd (by decide) hn; have HO0 := hide (OneW.new hbl hw hF hp); clear hbl hp hw hF; dsimp only) | fail)
  clear KN1
  go_upto_region 6 with (fail)
  go_loopw [7, 8] (fun sa si wr => ∃ (j : Nat) (D : List (Int × Int)) (M : List Int), j ≤ 100 ∧ si = .int .i64 (j : Int) ∧ Hid (M.length = j) ∧ Hid (OneW w wr pv 0 D sa M) ∧ Hid (OnceI D M)) (fun _ si _ => 100 - (Go.RowKit.intOf si).toNat)
  case atStart => exact ⟨0, [], [], by omega, rfl, hide rfl, HO0, hide OnceI.nil⟩
  case round =>
    obtain ⟨j, D, M, hj, rfl, HM, HO, HC⟩ := hrel
    clear HO0
    have hj0 : (0 : Int) ≤ (j : Int) := by omega
    by_cases hlt : j < n1 ∧ j < 100
    · obtain ⟨hal, hcl⟩ := hlt
      have hjl : j < l1.length := by rw [← HN1.out]; exact hal
      obtain ⟨b1, o1, rfl, hb1, hc1⟩ := HI1.out (by omega)
      obtain ⟨v, hv⟩ : ∃ x, x = l1[j] := ⟨_, rfl⟩
      have k0 := (HO.out.below.1.cell (p := ⟨b1, _, none⟩) hb1).trans (hc1 j hjl)
      rw [← hv] at k0
      have hai : (j : Int) < (n1 : Int) := by omega
      have hci : (j : Int) < 100 := by omega
      have KS := HO.out.set (j : Int) v
      have hc := HC.out.set v
      have hz := HC.out.zero
      rw [HM.out] at hc
      obtain ⟨E, hE⟩ : ∃ E, E = setE 0 D (j : Int) v := ⟨_, rfl⟩
      obtain ⟨D2, hD2⟩ : ∃ D2, D2 = setR 0 D (j : Int) v := ⟨_, rfl⟩
      rw [← hE, ← hD2] at KS
      unfold setR at hD2
      rw [← hE] at hD2
      have HK : Hid (∃ x : Int, (x = if E = 0 then v else 0) ∧ OnceI D2 (M ++ [x])) := hide (by
        by_cases e : E = 0
        · rw [if_pos e] at hD2; subst hD2
          exact ⟨v, by rw [if_pos e], hc⟩
        · rw [if_neg e] at hD2; subst hD2
          exact ⟨0, by rw [if_neg e], hz⟩)
      have KS' := hide KS
      clear hc1 hb1 hv KS hc hz hE hD2 HO HC
      obtain ⟨x, hxe, hoc⟩ := HK.out
      have HOC := hide hoc
      clear hoc HK
      have hEE : E = 0 ∨ ¬ E = 0 := Decidable.em _
      rcases hEE with hE | hE
      all_goals (
        try (rw [if_pos hE] at hxe; subst hxe; subst hE)
        try rw [if_neg hE] at hxe
        go_upto_region 11 with (first | (go_at_call 12; (with_reducible refine KS'.out.mono ?_); rintro e w6 ⟨rfl, ho6⟩; have HO6 := hide ho6; clear ho6; dsimp only) | fail)
        obtain ⟨W2, hw2, r2, z2, b2⟩ := alloc_nm w6 (.cells #[.int .i64 x] 2)
        obtain ⟨v4, w4, hap, ho4⟩ := (HO6.out.bel b2).app _ _ _ r2 (by rw [HM.out]; omega)
        have HO4 := hide ho4
        have HM4 : Hid ((M ++ [x]).length = j + 1) := hide (by rw [List.length_append, HM.out]; rfl)
        clear r2 z2 b2 ho4 KS'
        try rw [hxe] at hw2
        go_wp2_with (first | (at_builtin; refine wpList_append_eq rfl _ _ 53 53 rfl _ _ rfl rfl hap ?_) | fail)
        first
          | exact ⟨⟨j + 1, _, _, by omega, by go_num, HM4, HO4, HOC⟩, by simp [Go.RowKit.intOf]; omega⟩
          | (go_roundw
             case rel => exact ⟨j + 1, _, _, by omega, by go_num, HM4, HO4, HOC⟩
             case measure => simp [Go.RowKit.intOf]; omega))
    · have h3 : (j < n1 ∧ ¬ j < 100) ∨ ¬ j < n1 := by omega
      clear hlt
      rcases h3 with ⟨hai, hci⟩ | hai
      all_goals (
        try have hai : (j : Int) < (n1 : Int) := by omega
        try have hai : ¬ (j : Int) < (n1 : Int) := by omega
        try have hci : ¬ (j : Int) < 100 := by omega
        obtain ⟨A, c, rfl, hAc⟩ := HO.out.shape
        have HOs := HO
        rw [HM.out] at HOs hAc
        rw [HM.out]
        clear HO
        go_upto_region 13 with (fail)
        clear hai hj0
        try clear hci
        go_loopw [10] (fun sk wr => ∃ (k : Nat) (now : Int) (D : List (Int × Int)) (M : List Int), k ≤ 61 ∧ sk = .int .i64 (k : Int) ∧ Hid (M.length = j) ∧ Hid (OneW w wr pv now D (.slice A j c) M) ∧ Hid (OnceI D M) ∧ Hid ((n2 < k ∨ 60 < k) → D = [])) (fun sk _ => 61 - (Go.RowKit.intOf sk).toNat)
        case atStart => exact ⟨0, 0, D, M, by omega, rfl, HM, HOs, HC, hide (fun h => by omega)⟩
        case round =>
          obtain ⟨k, now, D, M, hk, rfl, HM, HO, HC, HE⟩ := hrel
          clear HOs
          have hk0 : (0 : Int) ≤ (k : Int) := by omega
          by_cases hlt : k ≤ n2 ∧ k ≤ 60
          · obtain ⟨hal, hcl⟩ := hlt
            have hai : (k : Int) ≤ (n2 : Int) := by omega
            have hci : (k : Int) ≤ 60 := by omega
            clear HE
            have KNow := hide HO.out.clock
            have HOW := hide HO.out.ok.clock.1
            have HTo : Hid (∃ (to : Int) (fin : Bool), (fin = true → to = 1099511627776) ∧ ((n2 < k + 1 ∨ 60 < k + 1) → fin = true) ∧
                ((k < n2 ∧ k < 60 ∧ ∃ b o, A2 = some ⟨b, o, none⟩ ∧ wr.cell? ⟨b, o + k, none⟩ = some (.int .i64 to)) ∨ (k < n2 ∧ ¬ k < 60 ∧ to = 1099511627776) ∨ (¬ k < n2 ∧ to = 1099511627776))) := hide (by
              by_cases h : k < n2 ∧ k < 60
              · have hkl : k < l2.length := by rw [← HN2.out]; exact h.1
                obtain ⟨b2, o2, e2, hb2, hc2⟩ := HI2.out (by omega)
                exact ⟨l2[k], false, fun e => by simp at e, fun e => by omega, .inl ⟨h.1, h.2, b2, o2, e2, (HO.out.below.1.cell (p := ⟨b2, _, none⟩) hb2).trans (hc2 k hkl)⟩⟩
              · refine ⟨_, true, fun _ => rfl, fun _ => rfl, .inr ?_⟩
                by_cases h4 : k < n2
                · exact .inl ⟨h4, fun e => h ⟨h4, e⟩, rfl⟩
                · exact .inr ⟨h4, rfl⟩)
            obtain ⟨to, fin, hf1, hf2, h3⟩ := HTo.out
            have KA := hide (advO_any HO.out HC.out fin hf1)
            have hfin := hide hf2
            clear HTo hf1 hf2 hal hcl
            rcases h3 with ⟨g1, g2, b2, o2, rfl, k0⟩ | ⟨g1, g2, rfl⟩ | ⟨g1, rfl⟩
            all_goals as_aux_lemma => (
              try have g1 : (k : Int) < (n2 : Int) := by omega
              try have g1 : ¬ (k : Int) < (n2 : Int) := by omega
              try have g2 : (k : Int) < 60 := by omega
              try have g2 : ¬ (k : Int) < 60 := by omega
              go_upto_region 18 with (fail)
              clear g1
              try clear g2
              go_upto_region 19 with (first | (go_at_call 22; (with_reducible refine KNow.out.mono ?_); rintro e w3 ⟨rfl, rfl⟩; dsimp only) | fail)
              clear KNow HO
              go_upto_region 20 with (first | (go_at_call 16; (with_reducible refine KA.out.mono ?_); rintro e w4 ⟨t, E, rfl, hA⟩; have HA := hide hA; clear hA; dsimp only) | fail)
              clear KA HC
              obtain ⟨now', T, D', ho4, hbs, hoc, hnd, hlw, hTl, hfn, hE⟩ := HA.out
              have HO4 := hide ho4
              have HBS := hide hbs
              have HOC := hide hoc
              have HND := hide hnd
              have HLW := hide hlw
              have HFN : Hid ((n2 < k + 1 ∨ 60 < k + 1) → D' = []) := hide (fun h => hfn (hfin.out h))
              have KN4 := hide ho4.clock
              obtain ⟨m, hm⟩ : ∃ m, m = T.length := ⟨_, rfl⟩
              have HMM := hide hm
              rw [← hm] at hTl
              have HT : Hid (∃ At ct, t = .slice At m ct ∧ (E ≠ 0 → m = 0 ∧ t = .slice none 0 0) ∧ RowD w4 At T) := hide (by
                obtain ⟨At, ct, e, -, -, -, hr⟩ := RowD.of_own hbs.1
                rw [← hm] at e
                refine ⟨At, ct, e, fun h => ?_, hr⟩
                rcases hE with h0 | ⟨-, hT0, ht0, -⟩
                · exact absurd h0 h
                · exact ⟨by rw [hm, hT0]; rfl, ht0⟩)
              have HNow : Hid (E ≠ 0 → now' = now) := hide (fun h => hE.elim (fun e => absurd e h) (fun e => e.2.2.2))
              clear ho4 hbs hoc hnd hlw hfn hfin hm hE HA
              have hEE : E = 0 ∨ E ≠ 0 := Decidable.em _
              rcases hEE with hE | hE
              all_goals (
                obtain ⟨At, ct, rfl, hT2, hrd⟩ := HT.out
                have HRD := hide hrd
                first
                  | (subst hE)
                  | (have hm0 : ¬ (m : Int) > 0 := by have := (hT2 hE).1; omega
                     have hnw := HNow.out hE
                     rw [hnw] at KN4)
                clear hT2 hrd HT HNow
                go_upto_region 23 with (first | (go_at_call 22; (with_reducible refine KN4.out.mono ?_); rintro e w5 ⟨rfl, rfl⟩; dsimp only) | fail)
                clear KN4
                go_loopw [15] (fun si wr => ∃ (i : Nat) (M : List Int), i ≤ m ∧ si = .int .i64 (i : Int) ∧ Hid (M.length = j) ∧ Hid (OneW w wr pv now' D' (.slice A j c) M) ∧ Hid (Beside wr (.slice At m ct) (.slice A j c) T) ∧ Hid (OnceI (T.drop i ++ D') M)) (fun si _ => m - (Go.RowKit.intOf si).toNat)
                case atStart => exact ⟨0, M, by omega, rfl, HM, HO4, HBS, HOC⟩
                case round =>
                  obtain ⟨i, M, hi, rfl, HM, HO, HBS, HOC⟩ := hrel
                  clear HO4
                  by_cases hlt : i < m
                  · obtain ⟨q, hq⟩ : ∃ q, T[i]? = some q := ⟨_, List.getElem?_eq_getElem (by have := HMM.out; omega)⟩
                    have hdr : T.drop i = q :: T.drop (i + 1) := by
                      obtain ⟨h1, h2⟩ := List.getElem?_eq_some_iff.1 hq
                      rw [List.drop_eq_getElem_cons h1, h2]
                    have hoc := HOC.out
                    rw [hdr, List.cons_append] at hoc
                    have hnd : ((q :: (T.drop (i + 1) ++ D')).map Prod.fst).Nodup := by
                      have h := HND.out
                      have hs : (q :: (T.drop (i + 1) ++ D')).Sublist (T ++ D') := by
                        rw [← List.cons_append, ← hdr]
                        exact (List.drop_sublist i T).append (List.Sublist.refl _)
                      exact (hs.map _).nodup h
                    obtain ⟨kk, e1, ⟨hkk, e2⟩, hnext⟩ := hoc.take hnd
                    have hlw := HLW.out q (List.mem_of_getElem? hq)
                    obtain ⟨At', ct', eT, -, -, -, hrdr⟩ := RowD.of_own HBS.out.1
                    injection eT with e3 e4 e5
                    subst e3
                    obtain ⟨bt, rfl, hbt, c0, c1'⟩ := hrdr.cells hq
                    obtain ⟨ba, hA⟩ : ∃ ba, A = some ⟨ba, 0, none⟩ := by
                      obtain ⟨F, hof⟩ := HO.out
                      obtain ⟨ba, cc, e, -⟩ := hof.a.pos (by rw [List.length_map]; omega)
                      injection e with e6 e7 e8
                      exact ⟨ba, e6⟩
                    subst hA
                    obtain ⟨rd, -⟩ := HO.out.reads hkk
                    rw [e2] at rd
                    obtain ⟨x, y⟩ := q
                    dsimp only at e1 hlw c0 c1' rd
                    subst e1
                    have hnow : 0 ≤ now := by have := HOW.out; exact this
                    have R1 : ∀ p : BW wr, p.w.cell? ⟨ba, kk, none⟩ = some (.int .i64 y) := fun p => p.cell rd
                    have R2 : ∀ p : BW wr, p.w.cell? ⟨bt, i * 2 + 1, none⟩ = some (.int .i64 y) := fun p => p.cell c1'
                    have hkj : kk < j := by rw [← HM.out]; exact hkk
                    have x0 : ¬ (kk : Int) < 0 := by omega
                    have x1 : ¬ (kk : Int) ≥ (j : Int) := by omega
                    have x2 : ¬ y = 0 := by omega
                    have x3 : ¬ y ≤ now := by omega
                    have x4 : ¬ y > _ := Int.not_lt.2 hlw.2
                    have x5 : (kk : Int) < (j : Int) := by omega
                    have y2 : (y == 0) = false := beq_eq_false_iff_ne.2 x2
                    have y3 : decide (y ≤ now) = false := decide_eq_false x3
                    have y4 := decide_eq_false x4
                    have y5 : (y != y) = false := by simp
                    have y6 : (!(y == y)) = false := by simp
                    have HKK := hide hkk
                    have HNX : Hid (OnceI (T.drop (i + 1) ++ D') (M.set kk 0)) := hide hnext
                    have HM6 : Hid ((M.set kk 0).length = j) := hide (by rw [List.length_set]; exact HM.out)
                    have hil : (i : Int) < (m : Int) := by omega
                    clear hq hdr hoc hnd hkk e2 hnext hlw hrdr e4 e5 hbt c1' rd hnow
                    go_upto_region 26 with (fail)
                    all_goals (
                      refine wp_region_below wr (Below.refl _ _) (by kernel_rfl) (by kernel_rfl) ?_
                      repeat (go_big_quiet_step (fail))
                      refine wpQuiet_nil ?_
                      intro _ hw'
                      obtain ⟨pq, hw2'⟩ := hw'
                      subst hw2'
                      have ho5 := HO.out.bel pq.below
                      have hb5 := HBS.out.bel pq.below
                      obtain ⟨w5, hw5⟩ : ∃ W, W = pq.w := ⟨_, rfl⟩
                      rw [← hw5] at ho5 hb5 ⊢
                      obtain ⟨k5, f5⟩ := ho5.reads HKK.out
                      have hput := ho5.put kk 0
                      have HO6 := hide hput.1
                      have HBS6 := hide (hb5.put hput.2)
                      clear R1 R2 x0 x1 x2 x3 x4 y2 y3 y4 y5 y6 hw5 pq ho5 hb5 hput HO HBS c0
                      go_wp2_with fail
                      first
                        | exact ⟨⟨i + 1, _, by omega, by go_num, HM6, HO6, HBS6, HNX⟩, by simp [Go.RowKit.intOf]; omega⟩
                        | (go_roundw
                           case rel => exact ⟨i + 1, _, by omega, by go_num, HM6, HO6, HBS6, HNX⟩
                           case measure => simp [Go.RowKit.intOf]; omega))
                  · obtain rfl : i = m := by omega
                    have HOCe : Hid (OnceI D' M) := hide (by have h := HOC.out; rwa [List.drop_of_length_le (by have := HMM.out; omega), List.nil_append] at h)
                    go_wp2_with fail
                    first
                      | exact ⟨⟨k + 1, _, _, _, by omega, by go_num, HM, HO, HOCe, HFN⟩, by simp [Go.RowKit.intOf]; omega⟩
                      | (go_roundw
                         case rel => exact ⟨k + 1, _, _, _, by omega, by go_num, HM, HO, HOCe, HFN⟩
                         case measure => simp [Go.RowKit.intOf]; omega)))
          · have h3 : (k ≤ n2 ∧ ¬ k ≤ 60) ∨ ¬ k ≤ n2 := by omega
            have hD : D = [] := HE.out (by omega)
            subst hD
            have KL := HO.out.len
            rw [show (([] : List (Int × Int)).length : Int) = 0 from rfl] at KL
            clear hlt HE
            rcases h3 with ⟨hai, hci⟩ | hai
            all_goals (
              try have hai : (k : Int) ≤ (n2 : Int) := by omega
              try have hai : ¬ (k : Int) ≤ (n2 : Int) := by omega
              try have hci : ¬ (k : Int) ≤ 60 := by omega
              go_upto_region 30 with (fail)
              clear hai
              try clear hci
              go_loopw [17] (fun si wr2 => ∃ i : Nat, i ≤ j ∧ si = .int .i64 (i : Int) ∧ wr2 = wr) (fun si _ => j - (Go.RowKit.intOf si).toNat)
              case atStart => exact ⟨0, by omega, rfl, rfl⟩
              case round =>
                obtain ⟨i, hi, rfl, rfl⟩ := hrel
                by_cases hlt : i < j
                · have hil : i < M.length := by rw [HM.out]; exact hlt
                  obtain ⟨ba, hA⟩ : ∃ ba, A = some ⟨ba, 0, none⟩ := by
                    obtain ⟨F, hof⟩ := HO.out
                    obtain ⟨ba, cc, e, -⟩ := hof.a.pos (by rw [List.length_map]; omega)
                    injection e with e6 e7 e8
                    exact ⟨ba, e6⟩
                  subst hA
                  obtain ⟨rd, -⟩ := HO.out.reads hil
                  rw [HC.out.done hil] at rd
                  have hai : (i : Int) < (j : Int) := by omega
                  clear hil
                  go_wp2_with fail
                  first
                    | exact ⟨⟨i + 1, by omega, by go_num, by first | rfl | trivial⟩, by simp [Go.RowKit.intOf]; omega⟩
                    | (go_roundw
                       case rel => exact ⟨i + 1, by omega, by go_num, by first | rfl | trivial⟩
                       case measure => simp [Go.RowKit.intOf]; omega)
                · have hai : ¬ (i : Int) < (j : Int) := by omega
                  go_wp2_with (first
                    | (go_at_call 21; (with_reducible refine KL.mono ?_); rintro e w11 ⟨rfl, rfl⟩; dsimp only)
                    | (go_at_call 11; (with_reducible refine (known18_any _).mono ?_); rintro e w12 ⟨rfl, hb12⟩; have HB12 := hide (HO.out.bel hb12).below.1; clear hb12; dsimp only) | fail)
                  go_ret
                  exact ⟨rfl, HB12.out⟩))
end Go.Proofs.Ytjdedlmphghpnaa
