/-
  The walks of the statements OwnerStays and OwnerJoins.
-/
import Derived.Test.YtlpihjbnfdfbaaaOi
import Derived.Test.YtlpihjbnfdfbaaaOj
import Derived.Test.YtlpihjbnfdfbaaaLent
namespace Go.Proofs.Ytlpihjbnfdfbaaa
open Go.RowKit
set_option linter.unusedVariables false
set_option maxRecDepth 100000

/-- the rank of replicas that a mask has. -/
theorem rankR_reps {m : List Nat} (hm : Reps m) (h : BitVec 64) : rankR (natI m) h = sortL (kN h) m ∧ rankE (natI m) = 0 := by
  have hr := reps_right hm
  refine ⟨?_, if_pos hr⟩
  unfold rankR
  rw [if_pos hr, natL_natI, rank_sort hm.nodup]
theorem owV_reps {m : List Nat} (hm : Reps m) (h : BitVec 64) : owV (natI m) h = (sortL (kN h) m).headD 0 := by
  unfold owV; rw [(rankR_reps hm h).1]
theorem owE_reps {m : List Nat} (hm : Reps m) : owE (natI m) = if m.length = 0 then 20 else 0 := by
  unfold owE; rw [if_pos (reps_right hm), natI_len]

set_option maxHeartbeats 16000000 in
theorem ownerStays_any (w : World) (z : Int) (h : BitVec 64) (q : Int) (hz0 : -9223372036854775808 ≤ z) (hz1 : z ≤ 9223372036854775807) :
    Calls Try.prog 5 #[.int .i64 z, .int .u64 (h.toNat : Int), .int .i64 q] w fun e w' => e = .returned (.bool true) ∧ Below w.heap.size w w' := by
  have KL := hide (list_any w z hz0 hz1)
  cases hk : okM z
  · have he := listE_no hk
    obtain ⟨N, hN⟩ : ∃ N, N = h.toNat := ⟨_, rfl⟩
    rw [← hN]
    clear hN
    go_enter Try.func5, Try.ntmps5
    go_wp2_with fail
    refine KL.out.mono ?_
    intro e w1 hp
    obtain ⟨A1, c1, T1, hT1, rfl, hc1, hi1, hb1⟩ := hp.ints
    rw [he]
    have HB1 := hide hb1
    clear hp hT1 hc1 hi1 hb1
    go_wp2_with fail
    refine (known11_any w1).mono ?_
    rintro e w2 ⟨rfl, hb2⟩
    have HB2 := hide (HB1.out.trans (hb2.mono HB1.out.size))
    clear hb2
    go_wp2
    go_ret
    exact ⟨rfl, HB2.out⟩
  · have he := listE_yes hk
    have hz := of_decide_eq_true hk
    have hlv := listV_ok hk
    obtain ⟨m, hm⟩ : ∃ m, m = listM z.toNat 16 := ⟨_, rfl⟩
    have hreps : Reps m := by rw [hm]; exact listM_reps _
    rw [← hm] at hlv
    by_cases h2 : m.length < 2
    · obtain ⟨N, hN⟩ : ∃ N, N = h.toNat := ⟨_, rfl⟩
      rw [← hN]
      clear hN hm
      go_enter Try.func5, Try.ntmps5
      go_wp2_with fail
      refine KL.out.mono ?_
      intro e w1 hp
      obtain ⟨A1, c1, T1, hT1, rfl, hc1, hi1, hb1⟩ := hp.ints
      rw [he]
      have hT2 : (T1 : Int) < 2 := by rw [hT1, hlv]; omega
      have HB1 := hide hb1
      clear hp hT1 hc1 hi1 hb1 h2 hlv
      go_wp2_with fail
      refine (known11_any w1).mono ?_
      rintro e w2 ⟨rfl, hb2⟩
      have HB2 := hide (HB1.out.trans (hb2.mono HB1.out.size))
      clear hb2
      go_wp2
      go_ret
      exact ⟨rfl, HB2.out⟩
    · have hl16 := hreps.len
      have KR := hide (fun W B A c hB hb => orank_any W B A c (natI m) h (by rw [natI_len]; omega) hB hb)
      have KO := hide (fun W B A c k hB hb => oof_any W B A c (natI (m.take k ++ m.drop (k + 1))) h (by rw [natI_len, List.length_append, List.length_take, List.length_drop]; omega) hB hb)
      unfold OfPost at KO
      obtain ⟨n, hn⟩ : ∃ n, n = m.length := ⟨_, rfl⟩
      rw [natI_len, ← hn] at KR
      obtain ⟨k, hkk⟩ : ∃ k, k = countS q n := ⟨_, rfl⟩
      have hkn : k < n := by rw [hkk]; exact count_lt q (by omega)
      have KC := hide (fun W => count_any q n W (by omega) (by omega))
      rw [← hkk] at KC
      have hkm : k < m.length := by omega
      obtain ⟨s0, s1, hs0, hs1, hm1, hm2⟩ := stays_math (K := kN h) hreps (by omega) hkm
      have hrr := rankR_reps hreps h
      have hlen2 : (m.take k ++ m.drop (k + 1)).length = n - 1 := by rw [List.length_append, List.length_take, List.length_drop]; omega
      have KO1 : Hid (∀ W B A c T, T = n - 1 → B ≤ W.heap.size → IntS W B A (natI (m.take k ++ m.drop (k + 1))) → Calls Try.prog 14 #[.slice A T c, .int .u64 (h.toNat : Int)] W fun e w' => e = .returned (.tuple #[.int .i64 ((sortL (kN h) (m.take k ++ m.drop (k + 1))).headD 0 : Nat), .int .i64 0]) ∧ Below W.heap.size W w') := hide fun W B A c T hT hB hb => by
        have := KO.out W B A c k hB hb
        rw [owV_reps (hreps.without k), owE_reps (hreps.without k), hlen2, if_neg (by omega), natI_len, hlen2, ← hT] at this
        exact this
      obtain ⟨S, hS⟩ : ∃ S, S = sortL (kN h) m := ⟨_, rfl⟩
      have hSl : S.length = n := by rw [hS, sort_len, hn]
      rw [← hS] at hs0 hs1 hrr
      obtain ⟨V, hV⟩ : ∃ V, V = (sortL (kN h) (m.take k ++ m.drop (k + 1))).headD 0 := ⟨_, rfl⟩
      rw [← hV] at KO1 hm1 hm2
      obtain ⟨N, hN⟩ : ∃ N, N = h.toNat := ⟨_, rfl⟩
      rw [← hN] at KR KO1 ⊢
      have HRR := hide hrr
      have HSL := hide hSl
      have HNN := hide hn
      have HLV := hide hlv
      have HS0 := hide hs0
      have HS1 := hide hs1
      have hx : m[k] = m[k] := rfl
      obtain ⟨x, hxx⟩ : ∃ x, x = m[k] := ⟨_, rfl⟩
      rw [← hxx] at hm1 hm2
      have HX := hide hxx
      have HM1 := hide hm1
      have HM2 := hide hm2
      have HR := hide hreps
      have hn2 : ¬ (n : Int) < 2 := by omega
      have hn1 : (1 : Int) < (n : Int) := by omega
      have hn0 : (0 : Int) < (n : Int) := by omega
      have hki : (k : Int) < (n : Int) := by omega
      have hn16 : n ≤ 16 := by omega
      clear KO hS hN hV hkk hz hm hm1 hm2 hxx hx hs0 hs1 hSl hrr hlen2 hreps hlv hn
      go_enter Try.func5, Try.ntmps5
      go_wp2_with fail
      refine KL.out.mono ?_
      intro e w1 hp
      obtain ⟨A1, c1, T1, hT1, rfl, hc1, hi1, hb1⟩ := hp.ints
      rw [he]
      rw [HLV.out] at hT1 hi1
      obtain rfl : T1 = n := by rw [hT1, HNN.out]
      have HB1 := hide hb1
      have HI1 := hide hi1
      clear hp hT1 hi1 hb1
      go_wp2_with fail
      refine (KR.out w1 w1.heap.size A1 c1 (Nat.le_refl _) HI1.out).mono ?_
      intro e w2 hp
      obtain ⟨A2, c2, T2, hT2, rfl, hc2, hi2, hb2⟩ := hp.ints
      rw [HRR.out.2]
      rw [HRR.out.1] at hT2 hi2
      obtain rfl : T2 = T1 := by rw [hT2, HSL.out]
      have HB2 := hide (HB1.out.trans (hb2.mono HB1.out.size))
      have HI2 := hide hi2
      have HJ2 : Hid (IntS w2 w1.heap.size A1 (natI m)) := hide (HI1.out.below hb2 (Nat.le_refl _))
      have HZ2 := hide hb2.size
      clear hp hT2 hi2 hb2
      go_wp2_with fail
      refine (KC.out _).mono ?_
      rintro e w' ⟨rfl, rfl⟩
      have hlm : 0 < (natI m).length := by rw [natI_len, ← HNN.out]; omega
      obtain ⟨b, off, rfl, hbB, hcb⟩ := HJ2.out hlm
      have KW := hide (without_any w2 w1.heap.size b off c1 (natI m) k T2 (by rw [natI_len]; exact HNN.out) (by omega) hc1 hkn HZ2.out HJ2.out)
      go_wp2_with fail
      refine KW.out.mono ?_
      rintro e w3 ⟨v3, rfl, ho3, hb3⟩
      rw [← natI_without] at ho3
      obtain ⟨A3, c3, rfl, hc3, hi3, _⟩ := ho3.ints
      have HB3 := hide (HB2.out.trans (hb3.mono HB2.out.size))
      have HI3 : Hid (IntS w3 w2.heap.size A2 (natI S)) := hide (HI2.out.below hb3 (Nat.le_refl _))
      have HJ3 : Hid (IntS w3 w1.heap.size (some ⟨b, off, none⟩) (natI m)) := hide (HJ2.out.below hb3 HZ2.out)
      have HZ3 := hide (Nat.le_trans HZ2.out hb3.size)
      have HZ3' := hide hb3.size
      have KO2 := hide (KO1.out w3 w3.heap.size A3 c3 (natI (m.take k ++ m.drop (k + 1))).length (by rw [natI_len, List.length_append, List.length_take, List.length_drop, ← HNN.out]; omega) (Nat.le_refl _) hi3)
      clear ho3 hi3 hb3 hcb
      go_wp2_with fail
      refine KO2.out.mono ?_
      rintro e w4 ⟨rfl, hb4⟩
      have HB4 := hide (HB3.out.trans (hb4.mono HB3.out.size))
      have hI4 : IntS w4 w2.heap.size A2 (natI S) := HI3.out.below hb4 HZ3'.out
      have hJ4 : IntS w4 w1.heap.size (some ⟨b, off, none⟩) (natI m) := HJ3.out.below hb4 HZ3.out
      clear hb4
      obtain ⟨b', off', he', _, hcm⟩ := hJ4 hlm
      simp only [Option.some.injEq, Addr.mk.injEq, and_true] at he'
      obtain ⟨rfl, rfl⟩ := he'
      have h1 := hcm k (by rw [natI_len]; exact hkm)
      rw [natI_at, ← HX.out] at h1
      obtain ⟨b2, o2, rfl, _, hcs⟩ := hI4 (by rw [natI_len, HSL.out]; omega)
      have h20 := hcs 0 (by rw [natI_len, HSL.out]; omega)
      have h21 := hcs 1 (by rw [natI_len, HSL.out]; omega)
      have e0 : S[0]'(by rw [HSL.out]; omega) = s0 := by have := HS0.out; rw [List.getElem?_eq_getElem (by rw [HSL.out]; omega)] at this; exact Option.some.inj this
      have e1 : S[1]'(by rw [HSL.out]; omega) = s1 := by have := HS1.out; rw [List.getElem?_eq_getElem (by rw [HSL.out]; omega)] at this; exact Option.some.inj this
      rw [natI_at, e0, Nat.add_zero] at h20
      rw [natI_at, e1] at h21
      clear hcm hcs hI4 hJ4 e0 e1 hlm
      by_cases hxs : x = s0
      · have hv := HM1.out hxs
        subst hxs
        subst hv
        go_wp2
        go_quiet (fail)
        go_wp2_with fail
        refine (known11_any _).mono ?_
        rintro e w5 ⟨rfl, hb5⟩
        have HB5 := hide ((below_drewN HB4.out nq).trans (hb5.mono (show w.heap.size ≤ (w4.drewN nq).heap.size from HB4.out.size)))
        clear hb5
        go_wp2
        go_ret
        exact ⟨rfl, HB5.out⟩
      · have hv := HM2.out hxs
        have hxs2 : ((x : Int) == (s0 : Int)) = false := by simp; omega
        subst hv
        go_wp2
        go_quiet (fail)
        go_wp2_with fail
        refine (known11_any _).mono ?_
        rintro e w5 ⟨rfl, hb5⟩
        have HB5 := hide ((below_drewN HB4.out nq).trans (hb5.mono (show w.heap.size ≤ (w4.drewN nq).heap.size from HB4.out.size)))
        clear hb5
        go_wp2
        go_ret
        exact ⟨rfl, HB5.out⟩

set_option maxHeartbeats 16000000 in
theorem ownerJoins_any (w : World) (z : Int) (h : BitVec 64) (q : Int) :
    Calls Try.prog 6 #[.int .i64 z, .int .u64 (h.toNat : Int), .int .i64 q] w fun e w' => e = .returned (.bool true) ∧ Below w.heap.size w w' := by
  have hx0 := count_lt q (n := 16) (by omega)
  have hn0 := count_lt z (n := 65536) (by omega)
  have KC1 := hide (fun W => count_any q 16 W (by omega) (by omega))
  have KC2 := hide (fun W => count_any z 65536 W (by omega) (by omega))
  obtain ⟨x, hx⟩ : ∃ x, x = countS q 16 := ⟨_, rfl⟩
  obtain ⟨n, hn⟩ : ∃ n, n = countS z 65536 := ⟨_, rfl⟩
  rw [← hx] at KC1 hx0
  rw [← hn] at KC2 hn0
  clear hx hn
  have hp := pow_lt16 hx0
  obtain ⟨hj1, hj2, hj3⟩ := joins_math (K := kN h) (n := n) hx0
  have hM := or_lt16 hn0 hp
  have hor : bits BinOp.or IntKind.i64 (n : Int) (wrap64 (2 ^ x)) = ((n ||| 2 ^ x : Nat) : Int) := by rw [shl_one hx0, i64_or_nat _ _ (by omega) (by omega)]
  obtain ⟨M, hMM⟩ : ∃ M, M = n ||| 2 ^ x := ⟨_, rfl⟩
  rw [← hMM] at hj1 hj2 hj3 hM hor
  have hkn : okM (n : Int) = true := decide_eq_true (by omega)
  have hkM : okM (M : Int) = true := decide_eq_true (by omega)
  have hl1 : listV (n : Int) = listM n 16 := by rw [listV_ok hkn, Int.toNat_natCast]
  have hl2 : listV (M : Int) = listM M 16 := by rw [listV_ok hkM, Int.toNat_natCast]
  have he1 := listE_yes hkn
  have he2 := listE_yes hkM
  have hr1 := listM_reps n
  have hr2 := listM_reps M
  have hlen1 := listM_len n 16
  have hlen2 := listM_len M 16
  have KL1 := hide (fun W => list_any W (n : Int) (by omega) (by omega))
  have KL2 := hide (fun W => list_any W (M : Int) (by omega) (by omega))
  obtain ⟨m1, hm1⟩ : ∃ m1, m1 = listM n 16 := ⟨_, rfl⟩
  obtain ⟨m2, hm2⟩ : ∃ m2, m2 = listM M 16 := ⟨_, rfl⟩
  rw [← hm1] at hl1 hr1 hlen1 hj2 hj3
  rw [← hm2] at hl2 hr2 hlen2 hj1 hj2 hj3
  have KO1 : Hid (∀ W B A c T, T = m1.length → B ≤ W.heap.size → IntS W B A (natI m1) → Calls Try.prog 14 #[.slice A T c, .int .u64 (h.toNat : Int)] W fun e w' => e = .returned (.tuple #[.int .i64 ((sortL (kN h) m1).headD 0 : Nat), .int .i64 (if m1.length = 0 then 20 else 0)]) ∧ Below W.heap.size W w') := hide fun W B A c T hT hB hb => by
    have := oof_any W B A c (natI m1) h (by rw [natI_len]; omega) hB hb
    unfold OfPost at this
    rw [owV_reps hr1, owE_reps hr1, natI_len, ← hT] at this
    rw [← hT]; exact this
  have KO2 : Hid (∀ W B A c T, T = m2.length → B ≤ W.heap.size → IntS W B A (natI m2) → Calls Try.prog 14 #[.slice A T c, .int .u64 (h.toNat : Int)] W fun e w' => e = .returned (.tuple #[.int .i64 ((sortL (kN h) m2).headD 0 : Nat), .int .i64 0]) ∧ Below W.heap.size W w') := hide fun W B A c T hT hB hb => by
    have := oof_any W B A c (natI m2) h (by rw [natI_len]; omega) hB hb
    unfold OfPost at this
    rw [owV_reps hr2, owE_reps hr2, if_neg (by omega), natI_len, ← hT] at this
    exact this
  obtain ⟨a, ha⟩ : ∃ a, a = (sortL (kN h) m1).headD 0 := ⟨_, rfl⟩
  obtain ⟨b, hb⟩ : ∃ b, b = (sortL (kN h) m2).headD 0 := ⟨_, rfl⟩
  rw [← ha] at KO1 hj3
  rw [← hb] at KO2 hj2 hj3
  obtain ⟨N, hN⟩ : ∃ N, N = h.toNat := ⟨_, rfl⟩
  rw [← hN] at KO1 KO2 ⊢
  have wx : IntKind.u64.wrap (x : Int) = (x : Int) := Go.IntWalk.u64_in _ (by omega)
  have HL1 := hide hl1
  have HL2 := hide hl2
  have J2 : Hid (m1.length = 0 → b = x) := hide fun h => hj2 (List.eq_nil_of_length_eq_zero h)
  have J3 : Hid (m1.length ≠ 0 → b = a ∨ b = x) := hide fun h => hj3 (fun e => h (by rw [e]; rfl))
  clear ha hb hN hm1 hm2 hMM hl1 hl2 hj1 hj2 hj3 hp hr1 hr2 hkn hkM hlen1 hlen2
  go_enter Try.func6, Try.ntmps6
  go_wp2_with fail
  refine (KC1.out _).mono ?_
  rintro e w' ⟨rfl, rfl⟩
  go_wp2_with fail
  refine (KC2.out _).mono ?_
  rintro e w' ⟨rfl, rfl⟩
  go_wp2_with fail
  refine (KL1.out _).mono ?_
  intro e w1 hp
  obtain ⟨A1, c1, T1, hT1, rfl, hc1, hi1, hb1⟩ := hp.ints
  rw [he1]
  rw [HL1.out] at hT1 hi1
  have HB1 := hide hb1
  have HI1 := hide hi1
  have HT1 := hide hT1
  clear hp hT1 hi1 hb1 hc1
  go_wp2_with fail
  refine (KL2.out _).mono ?_
  intro e w2 hp
  obtain ⟨A2, c2, T2, hT2, rfl, hc2, hi2, hb2⟩ := hp.ints
  rw [he2]
  rw [HL2.out] at hT2 hi2
  have HB2 := hide (HB1.out.trans (hb2.mono HB1.out.size))
  have HI2 := hide hi2
  have HT2 := hide hT2
  have HJ2 : Hid (IntS w2 w1.heap.size A1 (natI m1)) := hide (HI1.out.below hb2 (Nat.le_refl _))
  have HZ2 := hide hb2.size
  clear hp hT2 hi2 hb2 hc2
  have KO3 := hide (KO1.out w2 _ A1 c1 T1 HT1.out HZ2.out HJ2.out)
  rw [← HT1.out] at KO3 J2 J3
  by_cases h0 : T1 = 0
  · have hbx := J2.out h0
    rw [if_pos h0] at KO3
    subst h0
    subst hbx
    go_wp2_with fail
    refine KO3.out.mono ?_
    rintro e w3 ⟨rfl, hb3⟩
    have HB3 := hide (HB2.out.trans (hb3.mono HB2.out.size))
    have HJ3 : Hid (IntS w3 w2.heap.size A2 (natI m2)) := hide (HI2.out.below hb3 (Nat.le_refl _))
    have KO4 := hide (KO2.out w3 _ A2 c2 T2 HT2.out hb3.size HJ3.out)
    clear hb3
    go_wp2_with fail
    refine KO4.out.mono ?_
    rintro e w4 ⟨rfl, hb4⟩
    have HB4 := hide (HB3.out.trans (hb4.mono HB3.out.size))
    clear hb4
    go_wp2_with fail
    refine (known11_any _).mono ?_
    rintro e w5 ⟨rfl, hb5⟩
    have HB5 := hide (HB4.out.trans (hb5.mono HB4.out.size))
    clear hb5
    go_wp2
    go_ret
    exact ⟨rfl, HB5.out⟩
  · have hbx := J3.out h0
    rw [if_neg h0] at KO3
    clear h0
    go_wp2_with fail
    refine KO3.out.mono ?_
    rintro e w3 ⟨rfl, hb3⟩
    have HB3 := hide (HB2.out.trans (hb3.mono HB2.out.size))
    have HJ3 : Hid (IntS w3 w2.heap.size A2 (natI m2)) := hide (HI2.out.below hb3 (Nat.le_refl _))
    have KO4 := hide (KO2.out w3 _ A2 c2 T2 HT2.out hb3.size HJ3.out)
    clear hb3
    go_wp2_with fail
    refine KO4.out.mono ?_
    rintro e w4 ⟨rfl, hb4⟩
    have HB4 := hide (HB3.out.trans (hb4.mono HB3.out.size))
    clear hb4
    by_cases hba : b = a
    · subst hba
      clear hbx
      go_wp2_with fail
      refine (known11_any _).mono ?_
      rintro e w5 ⟨rfl, hb5⟩
      have HB5 := hide (HB4.out.trans (hb5.mono HB4.out.size))
      clear hb5
      go_wp2
      go_ret
      exact ⟨rfl, HB5.out⟩
    · obtain rfl : b = x := by omega
      have hba2 : ((b : Int) == (a : Int)) = false := by simp; omega
      clear hbx
      go_wp2_with fail
      refine (known11_any _).mono ?_
      rintro e w5 ⟨rfl, hb5⟩
      have HB5 := hide (HB4.out.trans (hb5.mono HB4.out.size))
      clear hb5
      go_wp2
      go_ret
      exact ⟨rfl, HB5.out⟩
end Go.Proofs.Ytlpihjbnfdfbaaa
