/-
  The walk of the statement WheelFull.
-/
import Derived.Test.YtjdedlmphghpnaaWib
import Derived.Test.YtjdedlmphghpnaaLent
namespace Go.Proofs.Ytjdedlmphghpnaa
open Go.RowKit
set_option maxRecDepth 100000
set_option linter.unusedVariables false
set_option linter.unusedSimpArgs false
attribute [local go_sem ↓] exec_span exec_put exec_build heap_alloc_new heap_old
attribute [local go_sem] spanQ_ptr spanC_some heap_of_drew heap_of_drewN putAt_ptr putOk_ptr oldOk_some World.setRow_alloc_new rs_Due built_due built_due0 rs_rDue built_rdue

theorem find_setD (id at_ x : Int) (D : List (Int × Int)) : findD x (setD id at_ D) = if x = id then some (id, at_) else findD x D := by
  unfold setD
  rw [find_insD id at_ x _ (fun q hq => (mem_dropD.1 hq).2), find_dropD]
  by_cases e : x = id
  · rw [if_pos e, if_pos e]
  · rw [if_neg e, if_neg e, if_neg e]
theorem len_setD {now id at_ : Int} {D : List (Int × Int)} (h : OkD now D) : (setD id at_ D).length = if findD id D = none then D.length + 1 else D.length := by
  unfold setD
  rw [insL_len]
  cases hf : findD id D with
  | none => rw [if_pos rfl, dropD_none hf]
  | some q =>
    obtain ⟨h1, h2⟩ := findD_some hf
    have := dropD_len h.ids h1
    rw [h2] at this
    simp only [reduceCtorEq, if_false]
    exact this
/-- the things 0 to i - 1 are due, and no others. -/
structure FullD (D : List (Int × Int)) (i : Nat) : Prop where
  len : D.length = i
  has : ∀ k : Nat, k < i → findD (k : Int) D ≠ none
  no : ∀ x : Int, (i : Int) ≤ x → findD x D = none
theorem FullD.nil : FullD [] 0 := ⟨rfl, fun k h => absurd h (Nat.not_lt_zero _), fun _ _ => rfl⟩
theorem FullD.set {D : List (Int × Int)} {i : Nat} {at_ : Int} (h : FullD D i) (hd : OkD 0 D) : FullD (setD (i : Int) at_ D) (i + 1) := by
  have hn := h.no i (Int.le_refl _)
  refine ⟨by rw [len_setD hd, if_pos hn, h.len], fun k hk => ?_, fun x hx => ?_⟩
  · rw [find_setD]
    by_cases e : (k : Int) = (i : Int)
    · rw [if_pos e]; simp
    · rw [if_neg e]; exact h.has k (by omega)
  · rw [find_setD, if_neg (by omega)]
    exact h.no x (by omega)
theorem setE_ok {D : List (Int × Int)} {i : Nat} {at_ : Int} (h : FullD D i) (hi : i < 4096) (ha : 0 < at_ ∧ at_ ≤ 1099511627776) : setE 0 D (i : Int) at_ = 0 := by
  unfold setE
  rw [if_neg (by omega), if_neg (by omega), if_neg (by rw [h.len]; omega)]
set_option maxHeartbeats 16000000 in
theorem wheelFull_any (w : World) (at0 again : Int) (ha : -9223372036854775808 ≤ at0 ∧ at0 ≤ 9223372036854775807) (hb : -9223372036854775808 ≤ again ∧ again ≤ 9223372036854775807) : Calls Try.prog 6 #[.int .i64 at0, .int .i64 again] w fun e w' => e = .returned (.bool true) ∧ Below w.heap.size w w' := by
  have KN := hide (newW_any w 0)
  have KC1 : Hid (∀ W : World, Calls Try.prog 25 #[.int .i64 (at0.tmod 1000), .int .i64 1000] W fun e w' => e = .returned (.int .i64 (countS (at0.tmod 1000) 1000 : Nat)) ∧ W = w') := hide (fun W => count_any (at0.tmod 1000) 1000 W (by decide) (by decide))
  have KC2 : Hid (∀ W : World, Calls Try.prog 25 #[.int .i64 again, .int .i64 4096] W fun e w' => e = .returned (.int .i64 (countS again 4096 : Nat)) ∧ W = w') := hide (fun W => count_any again 4096 W (by decide) (by decide))
  obtain ⟨a, hA⟩ : ∃ a : Nat, a = countS (at0.tmod 1000) 1000 := ⟨_, rfl⟩
  obtain ⟨g, hG⟩ : ∃ g : Nat, g = countS again 4096 := ⟨_, rfl⟩
  have haL : a < 1000 := by rw [hA]; exact count_lt _ (by decide)
  have hgL : g < 4096 := by rw [hG]; exact count_lt _ (by decide)
  rw [← hA] at KC1
  rw [← hG] at KC2
  clear hA hG
  have hr0 : -1000 < at0.tmod 1000 ∧ at0.tmod 1000 < 1000 := ⟨Int.lt_tmod_of_pos _ (by decide), Int.tmod_lt_of_pos _ (by decide)⟩
  obtain ⟨r0, hR0⟩ : ∃ r0, at0.tmod 1000 = r0 := ⟨_, rfl⟩
  rw [hR0] at KC1 hr0
  go_enter Try.func6, Try.ntmps6
  go_upto_region 2 with (first | (go_at_call 9; (with_reducible refine KN.out.mono ?_); rintro e w1 ⟨hb, ⟨-, p, F, rfl, hp, hw, hF⟩ | ⟨hn, -⟩⟩; rotate_left; exact absurd (by decide) hn; have HW := hide hw; have HK : Hid (KeptF w.heap.size w w1 F) := hide ⟨hb, hb.size, fun k hk => by rw [hF k hk]; exact hp⟩; clear hb hw hF hp; dsimp only) | fail)
  go_wp2_with (first | (go_at_call 25; (with_reducible refine (KC1.out _).mono ?_); rintro e w2 ⟨rfl, rfl⟩; dsimp only) | fail)
  go_loopw [7] (fun si wr => ∃ (i : Nat) (D : List (Int × Int)) (F : Nat → Prop), i ≤ 4096 ∧ si = .int .i64 (i : Int) ∧ Hid (FullD D i) ∧ Hid (WhW wr p 0 D F) ∧ Hid (KeptF w.heap.size w wr F)) (fun si _ => 4096 - (Go.RowKit.intOf si).toNat)
  case atStart => exact ⟨0, [], F, by decide, rfl, hide FullD.nil, HW, HK⟩
  case round =>
    obtain ⟨i, D, F', hi, rfl, HFD, HWi, HKi⟩ := hrel
    clear HW HK KN KC1
    by_cases hlt : i < 4096
    · obtain ⟨z, hz⟩ : ∃ z, (i : Int).tmod 7 = z := ⟨_, rfl⟩
      have hz1 : 0 ≤ z ∧ z < 7 := by rw [← hz]; exact ⟨Int.tmod_nonneg _ (by omega), Int.tmod_lt_of_pos _ (by decide)⟩
      have hse := setE_ok HFD.out hlt (at_ := 1 + (a : Int) + z) (by omega)
      have KS := setW_any HWi.out (i : Int) (1 + (a : Int) + z)
      have hsr : setR 0 D (i : Int) (1 + (a : Int) + z) = setD (i : Int) (1 + (a : Int) + z) D := by unfold setR; rw [if_pos hse]
      rw [hse, hsr] at KS
      have HFD2 := hide (HFD.out.set (at_ := 1 + (a : Int) + z) HWi.out.ok)
      have KS' := hide KS
      clear KS hse hsr HFD HWi
      go_wp2_with (first | (go_at_call 12; (with_reducible refine KS'.out.mono ?_); rintro e w3 ⟨F3, rfl, hw3, hs3⟩; have HW3 := hide hw3; have HK3 := hide (HKi.out.step hs3); clear hw3 hs3; dsimp only) | fail)
      first
        | exact ⟨⟨i + 1, _, F3, by omega, by go_num, HFD2, HW3, HK3⟩, by simp [Go.RowKit.intOf]; omega⟩
        | (go_roundw
           case rel => exact ⟨i + 1, _, F3, by omega, by go_num, HFD2, HW3, HK3⟩
           case measure => simp [Go.RowKit.intOf]; omega)
    · obtain rfl : i = 4096 := by omega
      have hok := HWi.out.ok
      have hg0 : findD (g : Int) D ≠ none := HFD.out.has g hgL
      have ha0 : atD 4096 D = 0 := (atD_zero hok).2 (HFD.out.no 4096 (Int.le_refl _))
      have hag : atD (g : Int) D ≠ 0 := fun h => hg0 ((atD_zero hok).1 h)
      have hE1 : setE 0 D 4096 (1 + (a : Int)) = 4 := by unfold setE; rw [if_neg (by omega), if_neg (by omega), if_pos ⟨ha0, by rw [HFD.out.len]; exact Nat.le_refl _⟩]
      have hR1 : setR 0 D 4096 (1 + (a : Int)) = D := by unfold setR; rw [hE1]; rfl
      have hE2 : setE 0 D (g : Int) (1 + (a : Int) + 9) = 0 := by unfold setE; rw [if_neg (by omega), if_neg (by omega), if_neg (fun h => hag h.1)]
      obtain ⟨D1, hD1⟩ : ∃ D1, D1 = setD (g : Int) (1 + (a : Int) + 9) D := ⟨_, rfl⟩
      have hR2 : setR 0 D (g : Int) (1 + (a : Int) + 9) = D1 := by unfold setR; rw [hE2, hD1]; rfl
      have hf : findD (g : Int) D1 = some ((g : Int), 1 + (a : Int) + 9) := by rw [hD1, find_setD, if_pos rfl]
      have hAt : atD (g : Int) D1 = 1 + (a : Int) + 9 := by unfold atD; rw [hf]; rfl
      have hLen : D1.length = 4096 := by rw [hD1, len_setD hok, if_neg hg0, HFD.out.len]
      have hok1 : OkD 0 D1 := by
        have hlt : (dropD (g : Int) D).length < 4096 := by
          cases hq : findD (g : Int) D with
          | none => exact absurd hq hg0
          | some q =>
            obtain ⟨h1, h2⟩ := findD_some hq
            have := dropD_len hok.ids h1
            rw [h2, HFD.out.len] at this
            omega
        rw [hD1]; exact setD_ok hok (by omega) hlt
      have hf1 : (findD (g : Int) D1).isSome = true := by rw [hf]; rfl
      have hf2 : (findD (g : Int) (dropD (g : Int) D1)).isSome = false := by rw [find_dropD, if_pos rfl]; rfl
      have hE3 : setE 0 (dropD (g : Int) (dropD (g : Int) D1)) 4096 (1 + (a : Int)) = 0 := by
        have h1 : dropD (g : Int) (dropD (g : Int) D1) = dropD (g : Int) D1 := dropD_none (by rw [find_dropD, if_pos rfl])
        have h2 := dropD_len hok1.ids (findD_some hf).1
        unfold setE
        rw [h1, if_neg (by omega), if_neg (by omega), if_neg (by dsimp only at h2; omega)]
      have KC := KC2
      have HWn := HWi
      have HKn := HKi
      clear hD1 hf hok hok1 hg0 ha0 hag HFD HWi HKi KC2 hr0 hR0
      go_wp2_with (first
        | (go_at_call 25; (with_reducible refine (KC.out _).mono ?_); rintro e w2 ⟨rfl, rfl⟩; dsimp only)
        | (go_at_call 12; (with_reducible refine (setW_any HWn.out _ _).mono ?_); rintro e w3 ⟨F3, rfl, hw3, hs3⟩; have HK3 := hide (HKn.out.step hs3); clear HWn HKn; have HWn := hide hw3; have HKn := HK3; clear hw3 hs3 HK3; dsimp only)
        | (go_at_call 14; (with_reducible refine (dropW_any HWn.out _).mono ?_); rintro e w3 ⟨F3, rfl, hw3, hs3⟩; have HK3 := hide (HKn.out.step hs3); clear HWn HKn; have HWn := hide hw3; have HKn := HK3; clear hw3 hs3 HK3; dsimp only)
        | (go_at_call 23; (with_reducible refine (atW_any HWn.out _).mono ?_); rintro e w3 ⟨rfl, rfl⟩; dsimp only)
        | (go_at_call 21; (with_reducible refine (lenW_any HWn.out).mono ?_); rintro e w3 ⟨rfl, rfl⟩; dsimp only)
        | (go_at_call 11; (with_reducible refine (known18_any _).mono ?_); rintro e w5 ⟨rfl, hb5⟩; have HB5 := hide (HKn.out.1.trans (hb5.mono HKn.out.2.1)); clear hb5; dsimp only) | fail)
      go_ret
      exact ⟨rfl, HB5.out⟩
end Go.Proofs.Ytjdedlmphghpnaa
