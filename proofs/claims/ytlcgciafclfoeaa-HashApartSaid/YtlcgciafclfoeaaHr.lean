/-
  The walks of Sip's rounds, of a word more, the program's.
-/
import Derived.Test.YtlcgciafclfoeaaHs
namespace Go.Proofs.Ytlcgciafclfoeaa
open Go.RowKit
set_option linter.unusedVariables false

set_option maxHeartbeats 2000000 in
theorem rounds_any (w : World) (g n : Nat) (s : Sip4) (hn : n ≤ 4) (h : StH w g 43 s) :
    Calls Try.prog 23 #[.pointer (some ⟨g, 0, none⟩), .int .i64 (n : Int)] w fun e w' => e = .returned (.tuple #[]) ∧ StH w' g 43 (roundsS n s) ∧ Below g w w' := by
  have H0 := hide h
  clear h
  go_enter Try.func23, Try.ntmps23
  go_wp2
  go_loopw [5] (fun i wr => ∃ k : Nat, k ≤ n ∧ i = .int .i64 (k : Int) ∧ Hid (StH wr g 43 (roundsS k s)) ∧ Hid (Below g w wr)) (fun i _ => n - (intOf i).toNat)
  case atStart => exact ⟨0, by omega, rfl, H0, hide (Below.refl _ _)⟩
  case round =>
    obtain ⟨k, hk, rfl, hs, hb⟩ := hrel
    clear H0
    by_cases hlt : k < n
    · have hwr := hs.out
      have hBwr := hb.out
      clear hs hb
      have HN : Hid (roundsS (k + 1) s = roundS (roundsS k s)) := hide (rounds_last k s)
      generalize roundsS k s = t at hwr HN
      go_wp2_with fail
      refine (step01_any wr g (t) hwr).mono ?_
      rintro e w1 ⟨rfl, hw1, hbw1⟩
      have hBw1 := hBwr.trans hbw1
      clear hwr hBwr hbw1
      have HN1 : Hid (roundsS (k + 1) s = turn2 (step21 17 (step03 21 (step23 16 (turn0 (step01 13 t)))))) := HN
      clear HN
      generalize step01 13 t = t at hw1 HN1
      go_wp2_with fail
      have ci : w1.drew.cell? ⟨g, 0, none⟩ = some (.int .u64 (t.a.toNat : Int)) := hw1.c0
      have fi : w1.drew.frozen? ⟨g, 0, none⟩ = false := hw1.fr 0
      have H : StH (w1.drew.setCell ⟨g, 0, none⟩ (uV (rotB 32 t.a))) g 43 (turn0 t) := StH.set (w := w1.drew) hw1 0 _ rfl
      have K : Calls Try.prog 29 #[.int .u64 (t.a.toNat : Int), .int .i64 32] w1.drew fun e w'' => e = .returned (.int .u64 ((rotB 32 t.a).toNat : Int)) ∧ w'' = w1.drew := (rotl_any t.a 32 (by unfold Turn5; simp) w1.drew).mono fun _ _ h => ⟨h.1, h.2.symm⟩
      have HH := hide H
      have HB := hide hBw1
      clear H hw1 hBw1
      refine wp_region_still_tail 8 (by kernel_rfl) (by kernel_rfl) ?_
      simp only [List.take_succ_cons, List.take_zero, List.drop_succ_cons, List.drop_zero]
      change wpStill _ _ w1.drew _ _ _
      repeat (first | still_step | (still_call K))
      refine wpStill_nil ?_
      change wpList _ _ _ _ _ w1.drew
      obtain ⟨V, hV⟩ : ∃ V, V = w1.drew := ⟨_, rfl⟩
      have HBV : Hid (Below g w V) := hide (by rw [hV]; exact HB.out.drew)
      rw [← hV] at HH ci fi ⊢
      clear K hV HB
      unfold uV at HH
      go_wp2_with fail
      have hw2 := HH.out
      have hBw2 : Below g w (V.setCell ⟨g, 0, none⟩ (Value.int IntKind.u64 ((rotB 32 t.a).toNat : Int))) := HBV.out.setCell (Nat.le_refl _) _
      generalize V.setCell ⟨g, 0, none⟩ (Value.int IntKind.u64 ((rotB 32 t.a).toNat : Int)) = w2 at hw2 hBw2 ⊢
      clear HH HBV ci fi
      generalize turn0 t = t at hw2 HN1
      go_wp2_with fail
      refine (step23_any w2 g (t) hw2).mono ?_
      rintro e w3 ⟨rfl, hw3, hbw3⟩
      have hBw3 := hBw2.trans hbw3
      clear hw2 hBw2 hbw3
      go_wp2_with fail
      refine (step03_any w3 g (step23 16 t) hw3).mono ?_
      rintro e w4 ⟨rfl, hw4, hbw4⟩
      have hBw4 := hBw3.trans hbw4
      clear hw3 hBw3 hbw4
      go_wp2_with fail
      refine (step21_any w4 g (step03 21 (step23 16 t)) hw4).mono ?_
      rintro e w5 ⟨rfl, hw5, hbw5⟩
      have hBw5 := hBw4.trans hbw5
      clear hw4 hBw4 hbw5
      generalize step21 17 (step03 21 (step23 16 t)) = t at hw5 HN1
      go_wp2_with fail
      have ci : w5.drew.cell? ⟨g, 2, none⟩ = some (.int .u64 (t.c.toNat : Int)) := hw5.c2
      have fi : w5.drew.frozen? ⟨g, 2, none⟩ = false := hw5.fr 2
      have H : StH (w5.drew.setCell ⟨g, 2, none⟩ (uV (rotB 32 t.c))) g 43 (turn2 t) := StH.set (w := w5.drew) hw5 2 _ rfl
      have K : Calls Try.prog 29 #[.int .u64 (t.c.toNat : Int), .int .i64 32] w5.drew fun e w'' => e = .returned (.int .u64 ((rotB 32 t.c).toNat : Int)) ∧ w'' = w5.drew := (rotl_any t.c 32 (by unfold Turn5; simp) w5.drew).mono fun _ _ h => ⟨h.1, h.2.symm⟩
      have HH := hide H
      have HB := hide hBw5
      clear H hw5 hBw5
      refine wp_region_still_tail 8 (by kernel_rfl) (by kernel_rfl) ?_
      simp only [List.take_succ_cons, List.take_zero, List.drop_succ_cons, List.drop_zero]
      change wpStill _ _ w5.drew _ _ _
      repeat (first | still_step | (still_call K))
      refine wpStill_nil ?_
      change wpList _ _ _ _ _ w5.drew
      obtain ⟨V, hV⟩ : ∃ V, V = w5.drew := ⟨_, rfl⟩
      have HBV : Hid (Below g w V) := hide (by rw [hV]; exact HB.out.drew)
      rw [← hV] at HH ci fi ⊢
      clear K hV HB
      unfold uV at HH
      go_wp2_with fail
      have hw6 := HH.out
      have hBw6 : Below g w (V.setCell ⟨g, 2, none⟩ (Value.int IntKind.u64 ((rotB 32 t.c).toNat : Int))) := HBV.out.setCell (Nat.le_refl _) _
      generalize V.setCell ⟨g, 2, none⟩ (Value.int IntKind.u64 ((rotB 32 t.c).toNat : Int)) = w6 at hw6 hBw6 ⊢
      clear HH HBV ci fi
      have HF : Hid (StH w6 g 43 (roundsS (k + 1) s)) := hide (by rw [HN1.out]; exact hw6)
      have HBF := hide hBw6
      clear hw6 hBw6 HN1
      go_wp2
      go_roundw
      case rel => exact ⟨k + 1, by omega, by go_num, HF, HBF⟩
      case measure => simp [intOf]; omega
    · obtain rfl : k = n := by omega
      clear hlt
      go_wp2
      go_end0
      exact ⟨rfl, hs.out, hb.out⟩
end Go.Proofs.Ytlcgciafclfoeaa
