/-
  The walks of the statements OwnerRanks and OwnerMasks.
-/
import Derived.Test.YtlpihjbnfdfbaaaOh
namespace Go.Proofs.Ytlpihjbnfdfbaaa
open Go.RowKit
set_option linter.unusedVariables false
set_option maxRecDepth 100000

theorem RankPost.ints {w w' : World} {l : List Int} {h : BitVec 64} {e : Ending} (hp : RankPost w l h e w') : ∃ A c T, T = (rankR l h).length ∧ e = .returned (.tuple #[.slice A T c, .int .i64 (rankE l)]) ∧ T ≤ c ∧ IntS w' w'.heap.size A (natI (rankR l h)) ∧ Below w.heap.size w w' := by
  obtain ⟨v, rfl, ho, hb⟩ := hp
  rw [← natI_inV] at ho
  obtain ⟨A, c, rfl, hc, hi, _⟩ := ho.ints
  exact ⟨A, c, _, rfl, by rw [natI_len], by rw [natI_len] at hc; exact hc, hi, hb⟩
theorem ListPost.ints {w w' : World} {z : Int} {e : Ending} (hp : ListPost w z e w') : ∃ A c T, T = (listV z).length ∧ e = .returned (.tuple #[.slice A T c, .int .i64 (listE z)]) ∧ T ≤ c ∧ IntS w' w'.heap.size A (natI (listV z)) ∧ Below w.heap.size w w' := by
  obtain ⟨v, rfl, ho, hb⟩ := hp
  rw [← natI_inV] at ho
  obtain ⟨A, c, rfl, hc, hi, _⟩ := ho.ints
  exact ⟨A, c, _, rfl, by rw [natI_len], by rw [natI_len] at hc; exact hc, hi, hb⟩
theorem rankR_le (l : List Int) (h : BitVec 64) : (rankR l h).length ≤ l.length := by
  rw [rankR_len]; split <;> omega
theorem listV_le (z : Int) : (listV z).length ≤ 16 := by
  unfold listV; split
  · exact listM_len _ _
  · simp

/-- lists that are alike. -/
theorem sameI_self (w : World) (B1 B2 : Nat) (A1 A2 : Option Addr) (c1 c2 T1 T2 : Nat) (l m : List Int) (hlm : l = m) (h1 : T1 = l.length) (h2 : T2 = m.length) (hl : l.length ≤ 17592186044416) (hb1 : IntS w B1 A1 l) (hb2 : IntS w B2 A2 m) :
    Calls Try.prog 16 #[.slice A1 T1 c1, .slice A2 T2 c2] w fun e w' => e = .returned (.bool true) ∧ Below w.heap.size w w' := by
  subst hlm h1 h2
  refine (sameI_any w B1 B2 A1 A2 c1 c2 l l hl hl hb1 hb2).mono fun e w' hh => ?_
  unfold SamePost at hh
  exact ⟨by rw [hh.1]; simp, hh.2⟩

set_option maxHeartbeats 8000000 in
theorem ownerRanks_any (w : World) (A : Option Addr) (c : Nat) (l : List Int) (h : BitVec 64) (hl : l.length ≤ 17592186044416) (hb : IntS w w.heap.size A l) (hn : A = none → c = 0) :
    Calls Try.prog 3 #[.slice A l.length c, .int .u64 (h.toNat : Int)] w fun e w' => e = .returned (.bool true) ∧ Below w.heap.size w w' := by
  have hT := rankR_le l h
  have KR := hide (fun W B A c hB hb => orank_any W B A c l h hl hB hb)
  have KR2 := hide (fun W B A c hB hb => refrank_any W B A c l h hl hB hb)
  have KO := hide (fun W B A c hB hb => oof_any W B A c l h hl hB hb)
  have KO2 := hide (fun W B A c hB hb => orefof_any W B A c l h hl hB hb)
  unfold OfPost at KO KO2
  have KS := hide (fun W B1 B2 A1 A2 c1 c2 T1 T2 h1 h2 hb1 hb2 => sameI_self W B1 B2 A1 A2 c1 c2 T1 T2 (natI (rankR l h)) (natI (rankR l h)) rfl h1 h2 (by rw [natI_len]; omega) hb1 hb2)
  have KS2 := hide (fun W B1 B2 A1 A2 c1 c2 T1 T2 h1 h2 hb1 hb2 => sameI_self W B1 B2 A1 A2 c1 c2 T1 T2 l l rfl h1 h2 hl hb1 hb2)
  obtain ⟨N, hN⟩ : ∃ N, N = h.toNat := ⟨_, rfl⟩
  obtain ⟨n, hnl⟩ : ∃ n, n = l.length := ⟨_, rfl⟩
  obtain ⟨V, hV⟩ : ∃ V, V = owV l h := ⟨_, rfl⟩
  obtain ⟨E, hE⟩ : ∃ E, E = owE l := ⟨_, rfl⟩
  obtain ⟨F, hF⟩ : ∃ F, F = rankE l := ⟨_, rfl⟩
  rw [← hN] at KR KR2 KO KO2 ⊢
  rw [← hnl] at KR KR2 KO KO2 hl ⊢
  rw [← hV, ← hE] at KO KO2
  have HNL := hide hnl
  have HF := hide hF
  have HI := hide hb
  clear hN hnl hV hE hF hb hT
  go_enter Try.func3, Try.ntmps3
  go_wp2_with (at_builtin; refine wpList_app_ints rfl (.tmp 14) (.tmp 15) rfl w.heap.size _ [] l w.heap.size c A rfl (by rw [← HNL.out]; rfl) (OwnR.nil _ _ _) HI.out hn (by rw [← HNL.out]; simp; omega) (Nat.le_refl _) ?_)
  intro v1 w1 hown1 hgrow1 hat1
  have HB1 : Hid (Below w.heap.size w w1) := hide ((Below.refl _ _).grown hgrow1 (Nat.le_refl _) (fun g hg => by cases hg))
  obtain ⟨A1, c1, rfl, hc1, hi1, _⟩ := OwnR.ints (l := l) (by simpa using hown1)
  rw [← HNL.out] at hc1 ⊢
  have HI1 := hide hi1
  clear hown1 hgrow1 hat1 hi1
  go_wp2_with fail
  refine (KR.out w1 w1.heap.size A1 c1 (Nat.le_refl _) HI1.out).mono ?_
  intro e w2 hp
  obtain ⟨A2, c2, T2, hT2, rfl, hc2, hi2, hb2⟩ := hp.ints
  rw [← HF.out]
  have HB2 : Hid (Below w.heap.size w w2) := hide (HB1.out.trans (hb2.mono HB1.out.size))
  have HZ2 := hide hb2.size
  have HI2 := hide hi2
  have HT2 := hide hT2
  have HJ2 : Hid (IntS w2 w1.heap.size A1 l) := hide (HI1.out.below hb2 (Nat.le_refl _))
  clear hp hb2 hi2 hT2
  go_wp2_with fail
  refine (KR2.out w2 w.heap.size A c HB2.out.size (HI.out.below HB2.out (Nat.le_refl _))).mono ?_
  intro e w3 hp
  obtain ⟨A3, c3, T3, hT3, rfl, hc3, hi3, hb3⟩ := hp.ints
  rw [← HF.out]
  have HB3 : Hid (Below w.heap.size w w3) := hide (HB2.out.trans (hb3.mono HB2.out.size))
  have HZ3 := hide hb3.size
  have HI3 := hide hi3
  have HT3 := hide hT3
  have HK2 : Hid (IntS w3 w2.heap.size A2 (natI (rankR l h))) := hide (HI2.out.below hb3 (Nat.le_refl _))
  have HJ3 : Hid (IntS w3 w1.heap.size A1 l) := hide (HJ2.out.below hb3 HZ2.out)
  clear hp hb3 hi3 hT3
  go_wp2_with fail
  refine (KO.out w3 w1.heap.size A1 c1 (Nat.le_trans HZ2.out HZ3.out) HJ3.out).mono ?_
  rintro e w4 ⟨rfl, hb4⟩
  have HB4 : Hid (Below w.heap.size w w4) := hide (HB3.out.trans (hb4.mono HB3.out.size))
  have HZ4 := hide hb4.size
  have HK3 : Hid (IntS w4 w3.heap.size A3 (natI (rankR l h))) := hide (HI3.out.below hb4 (Nat.le_refl _))
  have HK4 : Hid (IntS w4 w2.heap.size A2 (natI (rankR l h))) := hide (HK2.out.below hb4 HZ3.out)
  have HJ4 : Hid (IntS w4 w1.heap.size A1 l) := hide (HJ3.out.below hb4 (Nat.le_trans HZ2.out HZ3.out))
  clear hb4
  go_wp2_with fail
  refine (KO2.out w4 w.heap.size A c HB4.out.size (HI.out.below HB4.out (Nat.le_refl _))).mono ?_
  rintro e w5 ⟨rfl, hb5⟩
  have HB5 : Hid (Below w.heap.size w w5) := hide (HB4.out.trans (hb5.mono HB4.out.size))
  have HK5 : Hid (IntS w5 w3.heap.size A3 (natI (rankR l h))) := hide (HK3.out.below hb5 HZ4.out)
  have HK6 : Hid (IntS w5 w2.heap.size A2 (natI (rankR l h))) := hide (HK4.out.below hb5 (Nat.le_trans HZ3.out HZ4.out))
  have HJ5 : Hid (IntS w5 w1.heap.size A1 l) := hide (HJ4.out.below hb5 (Nat.le_trans HZ2.out (Nat.le_trans HZ3.out HZ4.out)))
  have HZ5 := hide hb5.size
  clear hb5
  have KS3 := hide (KS.out w5 _ _ A2 A3 c2 c3 T2 T3 (by rw [HT2.out, natI_len]) (by rw [HT3.out, natI_len]) HK6.out HK5.out)
  go_wp2_with fail
  refine KS3.out.mono ?_
  rintro e w6 ⟨rfl, hb6⟩
  have HB6 : Hid (Below w.heap.size w w6) := hide (HB5.out.trans (hb6.mono HB5.out.size))
  have HJ6 : Hid (IntS w6 w1.heap.size A1 l) := hide (HJ5.out.below hb6 (Nat.le_trans HZ2.out (Nat.le_trans HZ3.out (Nat.le_trans HZ4.out HZ5.out))))
  clear hb6
  have KS4 := hide (KS2.out w6 _ _ A1 A c1 c n n HNL.out HNL.out HJ6.out (HI.out.below HB6.out (Nat.le_refl _)))
  go_wp2_with fail
  refine KS4.out.mono ?_
  rintro e w7 ⟨rfl, hb7⟩
  have HB7 : Hid (Below w.heap.size w w7) := hide (HB6.out.trans (hb7.mono HB6.out.size))
  clear hb7
  go_wp2_with fail
  refine (known11_any w7).mono ?_
  rintro e w8 ⟨rfl, hb8⟩
  have HB8 : Hid (Below w.heap.size w w8) := hide (HB7.out.trans (hb8.mono HB7.out.size))
  clear hb8
  go_wp2
  go_ret
  exact ⟨rfl, HB8.out⟩

theorem listV_ok {z : Int} (h : okM z = true) : listV z = listM z.toNat 16 := if_pos h
theorem mskV_list {z : Int} (h : okM z = true) : (mskV (natI (listV z)) : Int) = z ∧ rankE (natI (listV z)) = 0 := by
  have hz := of_decide_eq_true h
  have hr : risL (natI (listV z)) = true := by rw [listV_ok h]; exact reps_right (listM_reps _)
  unfold mskV rankE
  rw [if_pos hr, if_pos hr, natL_natI, listV_ok h, mask_listM]
  refine ⟨?_, rfl⟩
  rw [show (2 : Nat) ^ 16 = 65536 from rfl]; omega
theorem listV_msk {l : List Int} (h : risL l = true) : natI (listV (mskV l : Int)) = l ∧ listE (mskV l : Int) = 0 := by
  obtain ⟨m, rfl, hm⟩ := right_reps h
  have hlt := mskL_reps_lt hm
  have hv : mskV (natI m) = mskL m := by unfold mskV; rw [if_pos h, natL_natI]
  have hk : okM (mskL m : Int) = true := decide_eq_true (by omega)
  rw [hv]
  refine ⟨?_, if_pos hk⟩
  rw [listV_ok hk, Int.toNat_natCast, listM_mask hm]
theorem mskV_lt (l : List Int) : mskV l < 65536 := by
  unfold mskV
  split
  · next h => obtain ⟨m, rfl, hm⟩ := right_reps h; rw [natL_natI]; exact mskL_reps_lt hm
  · omega
theorem listE_no {z : Int} (h : okM z = false) : listE z = 1 := by unfold listE; rw [h]; rfl
theorem listE_yes {z : Int} (h : okM z = true) : listE z = 0 := if_pos h
theorem rankE_no {l : List Int} (h : risL l = false) : rankE l = 1 := by unfold rankE; rw [h]; rfl
theorem rankE_yes {l : List Int} (h : risL l = true) : rankE l = 0 := if_pos h

set_option maxHeartbeats 16000000 in
theorem ownerMasks_any (w : World) (A : Option Addr) (c : Nat) (l : List Int) (z : Int) (hz0 : -9223372036854775808 ≤ z) (hz1 : z ≤ 9223372036854775807) (hl : l.length ≤ 17592186044416) (hb : IntS w w.heap.size A l) :
    Calls Try.prog 4 #[.slice A l.length c, .int .i64 z] w fun e w' => e = .returned (.bool true) ∧ Below w.heap.size w w' := by
  have hT := listV_le z
  have KM := hide (fun W B A c hB hb => omask_any W B A c l hl hB hb)
  have KM2 := hide (fun W B A c hB hb => orefmask_any W B A c l hl hB hb)
  unfold MaskPost at KM KM2
  have KL := hide (fun W => list_any W z hz0 hz1)
  have KL2 := hide (fun W => reflist_any W z hz0 hz1)
  have KS := hide (fun W B1 B2 A1 A2 c1 c2 T1 T2 h1 h2 hb1 hb2 => sameI_self W B1 B2 A1 A2 c1 c2 T1 T2 (natI (listV z)) (natI (listV z)) rfl h1 h2 (by rw [natI_len]; omega) hb1 hb2)
  have KM3 : Hid (okM z = true → ∀ W B A c T, T = (listV z).length → B ≤ W.heap.size → IntS W B A (natI (listV z)) → Calls Try.prog 18 #[.slice A T c] W fun e w' => e = .returned (.tuple #[.int .i64 z, .int .i64 0]) ∧ Below W.heap.size W w') := hide fun hk W B A c T hT2 hB hb => by
    have := omask_any W B A c (natI (listV z)) (by rw [natI_len]; omega) hB hb
    unfold MaskPost at this
    rw [(mskV_list hk).1, (mskV_list hk).2, natI_len, ← hT2] at this
    exact this
  have KL3 : Hid (risL l = true → ∀ W, Calls Try.prog 20 #[.int .i64 (mskV l : Int)] W fun e w' => ∃ A c T, T = l.length ∧ e = .returned (.tuple #[.slice A T c, .int .i64 0]) ∧ IntS w' w'.heap.size A l ∧ Below W.heap.size W w') := hide fun hk W => by
    have hlt := mskV_lt l
    refine (list_any W (mskV l : Int) (by omega) (by omega)).mono fun e w' hp => ?_
    obtain ⟨A, c, T, hT, he, hc, hi, hb⟩ := hp.ints
    rw [(listV_msk hk).1] at hi
    rw [(listV_msk hk).2] at he
    refine ⟨A, c, T, ?_, he, hi, hb⟩
    rw [hT, ← natI_len, (listV_msk hk).1]
  have KS2 := hide (fun W B1 B2 A1 A2 c1 c2 T1 T2 h1 h2 hb1 hb2 => sameI_self W B1 B2 A1 A2 c1 c2 T1 T2 l l rfl h1 h2 hl hb1 hb2)
  obtain ⟨n, hnl⟩ : ∃ n, n = l.length := ⟨_, rfl⟩
  obtain ⟨V, hV⟩ : ∃ V, V = mskV l := ⟨_, rfl⟩
  have he1 : ∀ h, listE z = 1 := fun h => listE_no h
  obtain ⟨E, hE⟩ : ∃ E, E = listE z := ⟨_, rfl⟩
  obtain ⟨F, hF⟩ : ∃ F, F = rankE l := ⟨_, rfl⟩
  have hE1 : Hid (okM z = false → E = 1) := hide fun h => by rw [hE, listE_no h]
  have hE2 : Hid (okM z = true → E = 0) := hide fun h => by rw [hE, listE_yes h]
  have hF1 : Hid (risL l = false → F = 1) := hide fun h => by rw [hF, rankE_no h]
  have hF2 : Hid (risL l = true → F = 0) := hide fun h => by rw [hF, rankE_yes h]
  rw [← hnl] at KM KM2 KL3 hl ⊢
  rw [← hV, ← hF] at KM KM2
  rw [← hV] at KL3
  have HNL := hide hnl
  have HE := hide hE
  have HI := hide hb
  clear hnl hV hE hF hb hT he1
  go_enter Try.func4, Try.ntmps4
  go_wp2_with fail
  refine (KM.out w w.heap.size A c (Nat.le_refl _) HI.out).mono ?_
  rintro e w1 ⟨rfl, hb1⟩
  have HB1 := hide hb1
  clear hb1
  go_wp2_with fail
  refine (KM2.out w1 w.heap.size A c HB1.out.size (HI.out.below HB1.out (Nat.le_refl _))).mono ?_
  rintro e w2 ⟨rfl, hb2⟩
  have HB2 := hide (HB1.out.trans (hb2.mono HB1.out.size))
  clear hb2
  go_wp2_with fail
  refine (KL.out w2).mono ?_
  intro e w3 hp
  obtain ⟨A3, c3, T3, hT3, rfl, hc3, hi3, hb3⟩ := hp.ints
  rw [← HE.out]
  have HB3 := hide (HB2.out.trans (hb3.mono HB2.out.size))
  have HI3 := hide hi3
  have HT3 := hide hT3
  clear hp hb3 hi3 hT3
  go_wp2_with fail
  refine (KL2.out w3).mono ?_
  intro e w4 hp
  obtain ⟨A4, c4, T4, hT4, rfl, hc4, hi4, hb4⟩ := hp.ints
  rw [← HE.out]
  have HB4 := hide (HB3.out.trans (hb4.mono HB3.out.size))
  have HZ4 := hide hb4.size
  have HI4 := hide hi4
  have HT4 := hide hT4
  have HJ4 : Hid (IntS w4 w3.heap.size A3 (natI (listV z))) := hide (HI3.out.below hb4 (Nat.le_refl _))
  clear hp hb4 hi4 hT4
  have KS3 := hide (KS.out w4 _ _ A3 A4 c3 c4 T3 T4 (by rw [HT3.out, natI_len]) (by rw [HT4.out, natI_len]) HJ4.out HI4.out)
  go_wp2_with fail
  refine KS3.out.mono ?_
  rintro e w5 ⟨rfl, hb5⟩
  have HB5 := hide (HB4.out.trans (hb5.mono HB4.out.size))
  have HJ5 : Hid (IntS w5 w3.heap.size A3 (natI (listV z))) := hide (HJ4.out.below hb5 HZ4.out)
  have HZ5 : Hid (w3.heap.size ≤ w5.heap.size) := hide (Nat.le_trans HZ4.out hb5.size)
  clear hb5
  cases hk : okM z
  · have hE0 := hE1.out hk
    subst hE0
    cases hr : risL l
    · have hF0 := hF1.out hr
      subst hF0
      go_wp2_with fail
      refine (known11_any w5).mono ?_
      rintro e w8 ⟨rfl, hb8⟩
      have HB8 := hide (HB5.out.trans (hb8.mono HB5.out.size))
      clear hb8
      go_wp2
      go_ret
      exact ⟨rfl, HB8.out⟩
    · have hF0 := hF2.out hr
      subst hF0
      have KL4 := hide (KL3.out hr w5)
      go_wp2_with fail
      refine KL4.out.mono ?_
      rintro e w7 ⟨A7, c7, T7, hT7, rfl, hi7, hb7⟩
      have HB7 := hide (HB5.out.trans (hb7.mono HB5.out.size))
      have KS5 := hide (KS2.out w7 _ _ A7 A c7 c T7 n (by rw [hT7]; exact HNL.out) HNL.out hi7 (HI.out.below HB7.out (Nat.le_refl _)))
      clear hT7 hi7 hb7
      go_wp2_with fail
      refine KS5.out.mono ?_
      rintro e w8 ⟨rfl, hb8⟩
      have HB8 := hide (HB7.out.trans (hb8.mono HB7.out.size))
      clear hb8
      go_wp2_with fail
      refine (known11_any w8).mono ?_
      rintro e w9 ⟨rfl, hb9⟩
      have HB9 := hide (HB8.out.trans (hb9.mono HB8.out.size))
      clear hb9
      go_wp2
      go_ret
      exact ⟨rfl, HB9.out⟩
  · have hE0 := hE2.out hk
    subst hE0
    have KM4 := hide (KM3.out hk w5 _ A3 c3 T3 HT3.out HZ5.out HJ5.out)
    go_wp2_with fail
    refine KM4.out.mono ?_
    rintro e w6 ⟨rfl, hb6⟩
    have HB6 := hide (HB5.out.trans (hb6.mono HB5.out.size))
    clear hb6
    cases hr : risL l
    · have hF0 := hF1.out hr
      subst hF0
      go_wp2_with fail
      refine (known11_any w6).mono ?_
      rintro e w8 ⟨rfl, hb8⟩
      have HB8 := hide (HB6.out.trans (hb8.mono HB6.out.size))
      clear hb8
      go_wp2
      go_ret
      exact ⟨rfl, HB8.out⟩
    · have hF0 := hF2.out hr
      subst hF0
      have KL4 := hide (KL3.out hr w6)
      go_wp2_with fail
      refine KL4.out.mono ?_
      rintro e w7 ⟨A7, c7, T7, hT7, rfl, hi7, hb7⟩
      have HB7 := hide (HB6.out.trans (hb7.mono HB6.out.size))
      have KS5 := hide (KS2.out w7 _ _ A7 A c7 c T7 n (by rw [hT7]; exact HNL.out) HNL.out hi7 (HI.out.below HB7.out (Nat.le_refl _)))
      clear hT7 hi7 hb7
      go_wp2_with fail
      refine KS5.out.mono ?_
      rintro e w8 ⟨rfl, hb8⟩
      have HB8 := hide (HB7.out.trans (hb8.mono HB7.out.size))
      clear hb8
      go_wp2_with fail
      refine (known11_any w8).mono ?_
      rintro e w9 ⟨rfl, hb9⟩
      have HB9 := hide (HB8.out.trans (hb9.mono HB8.out.size))
      clear hb9
      go_wp2
      go_ret
      exact ⟨rfl, HB9.out⟩
end Go.Proofs.Ytlpihjbnfdfbaaa
