/-
  The walk of the statement TupleTwice.
-/
import Derived.Test.YthfdendkjifhkaaNf
import Derived.Test.YthfdendkjifhkaaLent
namespace Go.Proofs.Ythfdendkjifhkaa
open Go.RowKit
set_option maxRecDepth 100000
set_option linter.unusedVariables false
set_option linter.unusedSimpArgs false

theorem add_twice (k : Nat) (hk : k < 12) (a b m : Nat) : addL (addL (List.replicate 12 0) (k : Int) a m) (k : Int) b m = addL (List.replicate 12 0) (k : Int) (a + b) m := by
  have ok : okKind (k : Int) = true := by unfold okKind; simp; omega
  have g0 : getL (List.replicate 12 0) (k : Int) = 0 := by
    unfold getL
    rw [if_pos ok, Int.toNat_natCast, List.getD_eq_getElem?_getD, List.getElem?_replicate]
    split <;> rfl
  have g1 : getL ((List.replicate 12 0).set k (togS 0 a m)) (k : Int) = togS 0 a m := by
    unfold getL
    rw [if_pos ok, Int.toNat_natCast, List.getD_eq_getElem?_getD, List.getElem?_set_self (by simpa using hk)]
    rfl
  unfold addL
  rw [if_pos ok, if_pos ok, if_pos ok, g0, Int.toNat_natCast, g1, List.set_set]
  congr 1
  unfold togS
  repeat' split
  all_goals omega

set_option maxHeartbeats 4000000 in
theorem tupleTwice_any (w : World) (most : Nat) (z : Int) (a b : Nat) (hm : most < 18446744073709551616) (ha : a < 18446744073709551616) (hb : b < 18446744073709551616) :
    Calls Try.prog 11 #[.int .u64 (most : Int), .int .i64 z, .int .u64 (a : Int), .int .u64 (b : Int)] w fun e w' => e = .returned (.bool true) ∧ Below w.heap.size w w' := by
  have hq0 := count_lt z (n := 12) (by decide)
  have hcount := hide (fun (W1 : World) => count_any z 12 W1 (by decide) (by decide))
  obtain ⟨k, hk⟩ : ∃ k, k = countS z 12 := ⟨_, rfl⟩
  rw [← hk] at hq0 hcount
  have HA := hide (add_twice k hq0 a b most)
  have hs : IntKind.u64.wrap ((18446744073709551615 : Int) - (b : Int)) = ((18446744073709551615 - b : Nat) : Int) := by rw [show (18446744073709551615 : Int) - (b : Int) = ((18446744073709551615 - b : Nat) : Int) by omega]; exact IntWalk.u64_in _ (by omega)
  obtain ⟨r, hr⟩ : ∃ r, r = 18446744073709551615 - b := ⟨_, rfl⟩
  rw [← hr] at hs
  have HR := hide hr
  have HM := hide hm
  have Ha := hide ha
  have Hb := hide hb
  clear hk hr hm ha hb
  go_enter Try.func11, Try.ntmps11
  go_wp2_with fail
  refine (newC_any w most HM.out).mono ?_
  rintro e w1 ⟨g, rfl, C1, hg, b1⟩
  have B1 := hide b1
  have HC1 := hide C1
  have HG := hide hg
  have HGL := hide C1.lt
  clear b1 C1 hg
  dsimp only
  go_wp2_with fail
  refine (newC_any w1 most HM.out).mono ?_
  rintro e w2 ⟨d, rfl, C2, hd, b2⟩
  have B2 : Hid (Below w.heap.size w w2) := hide (B1.out.trans (b2.mono B1.out.size))
  have HC2 : Hid (CntS w2 g most (List.replicate 12 0)) := hide (HC1.out.keep (b2.block g HGL.out))
  have HD2 := hide C2
  have HGD : Hid (g < d) := hide (Nat.lt_of_lt_of_le HGL.out hd)
  clear b2 C2 hd
  dsimp only
  go_wp2_with fail
  refine (hcount.out w2).mono ?_
  rintro e w3 ⟨rfl, rfl⟩
  dsimp only
  by_cases hc : r < a
  · have hc' : (r : Int) < (a : Int) := by omega
    go_wp2_with fail
    refine (known6_any w2).mono ?_
    rintro e w4 ⟨rfl, b4⟩
    have B4 : Hid (Below w.heap.size w w4) := hide (B2.out.trans (b4.mono B2.out.size))
    clear b4
    dsimp only
    go_wp2
    go_ret
    exact ⟨rfl, B4.out⟩
  · have hc' : ¬ (r : Int) < (a : Int) := by omega
    have hw : IntKind.u64.wrap ((a : Int) + (b : Int)) = ((a + b : Nat) : Int) := by rw [show (a : Int) + (b : Int) = ((a + b : Nat) : Int) by omega]; exact IntWalk.u64_in _ (by have := HR.out; have := Hb.out; omega)
    have HAB : Hid (a + b < 18446744073709551616) := hide (by have := HR.out; have := Hb.out; omega)
    obtain ⟨c, hcc⟩ : ∃ c, c = a + b := ⟨_, rfl⟩
    rw [← hcc] at hw HAB HA
    clear hcc
    go_wp2_with fail
    refine (addC_any w2 g most _ HC2.out k a Ha.out).mono ?_
    rintro e w4 ⟨rfl, C4, g4⟩
    have HC4 := hide C4
    have HD4 : Hid (CntS w4 d most (List.replicate 12 0)) := hide (HD2.out.keep (g4.block d HD2.out.lt (by intro e; cases e; exact Nat.lt_irrefl _ HGD.out)))
    have B4 : Hid (Below w.heap.size w w4) := hide (B2.out.grown g4 B2.out.size (fun i e => by cases e; exact HG.out))
    clear C4 g4
    dsimp only
    go_wp2_with fail
    refine (addC_any w4 g most _ HC4.out k b Hb.out).mono ?_
    rintro e w5 ⟨rfl, C5, g5⟩
    rw [HA.out] at C5
    have HC5 := hide C5
    have HD5 : Hid (CntS w5 d most (List.replicate 12 0)) := hide (HD4.out.keep (g5.block d HD4.out.lt (by intro e; cases e; exact Nat.lt_irrefl _ HGD.out)))
    have B5 : Hid (Below w.heap.size w w5) := hide (B4.out.grown g5 B4.out.size (fun i e => by cases e; exact HG.out))
    clear C5 g5
    dsimp only
    go_wp2_with fail
    refine (addC_any w5 d most _ HD5.out k c HAB.out).mono ?_
    rintro e w6 ⟨rfl, C6, g6⟩
    have HD6 := hide C6
    have HC6 : Hid (CntS w6 g most (addL (List.replicate 12 0) (k : Int) c most)) := hide (HC5.out.keep (g6.block g HC5.out.lt (by intro e; cases e; exact Nat.lt_irrefl _ HGD.out)))
    have B6 : Hid (Below w.heap.size w w6) := hide (B5.out.grown g6 B5.out.size (fun i e => by cases e; exact Nat.le_trans HG.out (Nat.le_of_lt HGD.out)))
    obtain ⟨l, hl⟩ : ∃ l, l = addL (List.replicate 12 0) (k : Int) c most := ⟨_, rfl⟩
    rw [← hl] at HD6 HC6
    clear C6 g6 hl
    dsimp only
    go_wp2_with fail
    refine (getC_any w6 g most l HC6.out k).mono ?_
    rintro e w7 ⟨rfl, rfl⟩
    dsimp only
    go_wp2_with fail
    refine (getC_any w6 d most l HD6.out k).mono ?_
    rintro e w7 ⟨rfl, rfl⟩
    dsimp only
    go_wp2_with fail
    refine (totalC_any w6 g most l HC6.out).mono ?_
    rintro e w7 ⟨rfl, rfl⟩
    dsimp only
    go_wp2_with fail
    refine (totalC_any w6 d most l HD6.out).mono ?_
    rintro e w7 ⟨rfl, rfl⟩
    dsimp only
    go_wp2_with fail
    refine (known6_any w6).mono ?_
    rintro e w7 ⟨rfl, b7⟩
    have B7 : Hid (Below w.heap.size w w7) := hide (B6.out.trans (b7.mono B6.out.size))
    clear b7
    dsimp only
    go_wp2
    go_ret
    exact ⟨rfl, B7.out⟩
end Go.Proofs.Ythfdendkjifhkaa
