/-
  The fixed calls of steelyardlaw11, and the walk of 'without'.
-/
import Derived.Test.YtlpihjbnfdfbaaaOg
namespace Go.Proofs.Ytlpihjbnfdfbaaa
open Go.RowKit
set_option linter.unusedVariables false
set_option maxRecDepth 100000

theorem owV_five : owV [5] 77#64 = 5 := by
  unfold owV rankR
  rw [if_pos (by decide)]
  have : natL [5] = [5] := rfl
  rw [this, rank_sort (by simp)]
  simp [sortL]
theorem owE_five : owE [5] = 0 := by decide
theorem owE_nil : owE [] = 20 := by decide
theorem mskV_two : mskV [0, 2] = 5 := by decide
theorem rankE_two : rankE [0, 2] = 0 := by decide
theorem listV_five : listV 5 = [0, 2] := by decide
theorem listE_five : listE 5 = 0 := by decide
theorem owV_nil (h : BitVec 64) : owV [] h = 0 := by
  unfold owV
  rw [List.eq_nil_of_length_eq_zero (l := rankR [] h) (by rw [rankR_len]; simp)]; rfl

set_option maxHeartbeats 4000000 in
theorem known11_any (w : World) : Calls Try.prog 17 #[] w fun e w' => e = .returned (.bool true) ∧ Below w.heap.size w w' := by
  have K1 := hide (fun (W : World) b => oof_any W (b + 1) (some ⟨b, 0, none⟩) 1 [5] 77#64 (by decide))
  unfold OfPost at K1
  rw [owV_five, owE_five] at K1
  have K2 := hide (fun (W : World) b => omask_any W (b + 1) (some ⟨b, 0, none⟩) 2 [0, 2] (by decide))
  unfold MaskPost at K2
  rw [mskV_two, rankE_two] at K2
  have K3 := hide (fun (W : World) => list_any W 5 (by decide) (by decide))
  unfold ListPost at K3
  rw [listV_five, listE_five] at K3
  have K4 := hide (fun (W : World) => oof_any W 0 none 0 [] 1#64 (by decide) (Nat.zero_le _) (IntS.nil _ _ _))
  unfold OfPost at K4
  rw [owV_nil, owE_nil] at K4
  go_enter Try.func17, Try.ntmps17
  go_wp2_with fail
  have HL1 : Hid (IntS (w.alloc (.cells #[.int .i64 5] 3)) (w.heap.size + 1) (some ⟨w.heap.size, 0, none⟩) [5]) := hide (IntS.lit w [5] #[.int .i64 5] 3 (0, 0) rfl)
  refine (K1.out _ w.heap.size (by simp) HL1.out).mono ?_
  rintro e w1 ⟨rfl, hb1⟩
  have B1 : Hid (Below w.heap.size w w1) := hide (((Below.refl _ _).alloc (Nat.le_refl _) _).trans (hb1.mono (by simp)))
  clear hb1 HL1 K1
  go_wp2_with fail
  have HL2 : Hid (IntS (w1.alloc (.cells #[.int .i64 0, .int .i64 2] 3)) (w1.heap.size + 1) (some ⟨w1.heap.size, 0, none⟩) [0, 2]) := hide (IntS.lit w1 [0, 2] #[.int .i64 0, .int .i64 2] 3 (0, 0) rfl)
  refine (K2.out _ w1.heap.size (by simp) HL2.out).mono ?_
  rintro e w2 ⟨rfl, hb2⟩
  have B2 : Hid (Below w.heap.size w w2) := hide (B1.out.trans ((((Below.refl _ _).alloc (Nat.le_refl _) _).trans (hb2.mono (by simp))).mono B1.out.size))
  clear hb2 HL2 K2
  go_wp2_with fail
  refine (K3.out _).mono ?_
  rintro e w3 ⟨v, rfl, ho, hb3⟩
  have B3 : Hid (Below w.heap.size w w3) := hide (B2.out.trans (hb3.mono B2.out.size))
  obtain ⟨A3, c3, rfl, _, hi3, _⟩ := OwnR.ints (l := [0, 2]) ho
  have HI3 := hide hi3
  clear ho hi3 hb3 K3
  go_wp2_with fail
  refine (K4.out _).mono ?_
  rintro e w4 ⟨rfl, hb4⟩
  have B4 : Hid (Below w.heap.size w w4) := hide (B3.out.trans (hb4.mono B3.out.size))
  have HI4 : Hid (IntS w4 w3.heap.size A3 [0, 2]) := hide (HI3.out.below hb4 (Nat.le_refl _))
  have HZ := hide hb4.size
  clear hb4 K4 HI3
  have HL5 : Hid (IntS (w4.alloc (.cells #[.int .i64 0, .int .i64 2] 3)) (w4.heap.size + 1) (some ⟨w4.heap.size, 0, none⟩) [0, 2]) := hide (IntS.lit w4 [0, 2] #[.int .i64 0, .int .i64 2] 3 (0, 0) rfl)
  have HI5 : Hid (IntS (w4.alloc (.cells #[.int .i64 0, .int .i64 2] 3)) w3.heap.size A3 [0, 2]) := hide (HI4.out.below ((Below.refl _ _).alloc (Nat.le_refl _) _) HZ.out)
  have K5 := hide (sameI_any _ _ _ _ _ c3 2 [0, 2] [0, 2] (by decide) (by decide) HI5.out HL5.out)
  unfold SamePost at K5
  go_wp2_with fail
  refine K5.out.mono ?_
  rintro e w5 ⟨rfl, hb5⟩
  have B5 : Hid (Below w.heap.size w w5) := hide (B4.out.trans ((((Below.refl _ _).alloc (Nat.le_refl _) _).trans (hb5.mono (by simp))).mono B4.out.size))
  clear hb5
  go_wp2
  go_ret
  exact ⟨rfl, B5.out⟩

/-! a copy of what came in; a list without one of it -/
set_option maxHeartbeats 4000000 in
theorem without_any (w : World) (B b off c : Nat) (l : List Int) (k n : Nat) (hn : n = l.length) (hl : n ≤ 16) (hc : n ≤ c) (hk : k < n) (hB : B ≤ w.heap.size) (hb : IntS w B (some ⟨b, off, none⟩) l) :
    Calls Try.prog 23 #[.slice (some ⟨b, off, none⟩) n c, .int .i64 (k : Int)] w fun e w' => ∃ v, e = .returned v ∧ OwnR w' w.heap.size 3 v ((l.take k ++ l.drop (k + 1)).map izV) ∧ Below w.heap.size w w' := by
  have HN := hide hn
  have hkc : (k : Int) ≤ (c : Int) := by omega
  have hkn : ((k : Int) + 1) ≤ (n : Int) := by omega
  have hI1 : IntS w B (some ⟨b, off, none⟩) (l.take k) := hb.take k
  have hl1 : (l.take k).length = k := by rw [List.length_take]; omega
  have HI := hide hb
  clear hn hb
  go_enter Try.func23, Try.ntmps23
  go_wp2_with (at_builtin; refine wpList_app_ints rfl (.tmp 6) (.tmp 9) rfl w.heap.size _ [] (l.take k) B c (some ⟨b, off, none⟩) rfl (by rw [hl1]; rfl) (OwnR.nil _ _ _) hI1 (fun e => by cases e) (by rw [hl1]; simp; omega) (Nat.le_refl _) ?_)
  intro v1 w1 hown1 hgrow1 hat1
  have HB1 : Hid (Below w.heap.size w w1) := hide ((Below.refl _ _).grown hgrow1 (Nat.le_refl _) (fun g hg => by cases hg))
  have HO1 : Hid (OwnR w1 w.heap.size 3 v1 ((l.take k).map izV)) := hide (by simpa [List.map_take] using hown1)
  have HI1 : Hid (IntS w1 B (some ⟨b, off, none⟩) l) := hide (HI.out.below HB1.out hB)
  have HL1 := hide hl1
  have HZ := hide HB1.out.size
  have hl2 : Hid ((l.drop (k + 1)).length = n - (k + 1)) := hide (by rw [List.length_drop, HN.out])
  have hcast : ((n : Int) - ((k : Int) + 1)).toNat = n - (k + 1) := by omega
  clear hown1 hgrow1 hat1 hl1 hI1 HI
  by_cases hck : c = k + 1
  · have hI2 : Hid (IntS w1 B (some ⟨b, off, none⟩) (l.drop (k + 1))) := hide (by rw [List.eq_nil_of_length_eq_zero (l := l.drop (k + 1)) (by rw [hl2.out]; omega)]; exact IntS.nil _ _ _)
    subst hck
    obtain rfl : n = k + 1 := by omega
    go_wp2_with (at_builtin; refine wpList_app_ints rfl (.tmp 11) (.tmp 15) rfl w.heap.size _ (l.take k) (l.drop (k + 1)) B 0 (some ⟨b, off, none⟩) rfl (by rw [hl2.out, Nat.sub_self]; rfl) HO1.out hI2.out (fun e => by cases e) (by rw [HL1.out, hl2.out]; omega) HZ.out ?_)
    intro v2 w2 hown2 hgrow2 hat2
    have HB2 : Hid (Below w.heap.size w w2) := hide (HB1.out.grown hgrow2 HZ.out (fun g hg => (HO1.out.at g hg).1))
    have HO2 : Hid (OwnR w2 w.heap.size 3 v2 ((l.take k ++ l.drop (k + 1)).map izV)) := hide (by rw [List.map_append, List.map_take, List.map_drop]; exact hown2)
    clear hown2 hgrow2 hat2 HO1
    go_wp2
    go_ret
    exact ⟨_, rfl, HO2.out, HB2.out⟩
  · have hI2 : Hid (IntS w1 B (some ⟨b, off + (k + 1), none⟩) (l.drop (k + 1))) := hide (HI1.out.cut (k + 1))
    go_wp2_with (at_builtin; refine wpList_app_ints rfl (.tmp 11) (.tmp 15) rfl w.heap.size _ (l.take k) (l.drop (k + 1)) B (c - (k + 1)) (some ⟨b, off + (k + 1), none⟩) rfl (by rw [hl2.out]; rfl) HO1.out hI2.out (fun e => by cases e) (by rw [HL1.out, hl2.out]; omega) HZ.out ?_)
    intro v2 w2 hown2 hgrow2 hat2
    have HB2 : Hid (Below w.heap.size w w2) := hide (HB1.out.grown hgrow2 HZ.out (fun g hg => (HO1.out.at g hg).1))
    have HO2 : Hid (OwnR w2 w.heap.size 3 v2 ((l.take k ++ l.drop (k + 1)).map izV)) := hide (by rw [List.map_append, List.map_take, List.map_drop]; exact hown2)
    clear hown2 hgrow2 hat2 HO1
    go_wp2
    go_ret
    exact ⟨_, rfl, HO2.out, HB2.out⟩
end Go.Proofs.Ytlpihjbnfdfbaaa
