/-
  How all are in some bytes: Read, the program's and the document's.
-/
import Derived.Test.YtpbgbfmpjgkllaaMx
import Derived.Laws.Rows
namespace Go.Proofs.Ytpbgbfmpjgkllaa
open Go.RowKit
set_option maxRecDepth 100000
set_option linter.unusedVariables false
set_option linter.unusedSimpArgs false
attribute [local go_sem ↓] exec_span exec_put exec_build heap_alloc_new heap_old
attribute [local go_sem] spanQ_ptr spanC_some heap_of_drew heap_of_drewN putAt_ptr putOk_ptr oldOk_some World.setRow_alloc_new rs_inf rs_view

theorem allI_take {l : List (Int × Int)} {k : Nat} (h : k < l.length) (h1 : (l.take k).all rightI = true) : (l.take (k + 1)).all rightI = rightI l[k] := by
  rw [List.take_succ_eq_append_getElem h, List.all_append, h1]; simp
theorem allI_not {l : List (Int × Int)} {k : Nat} (h : k < l.length) (h1 : rightI l[k] = false) : l.all rightI = false := by
  cases hc : l.all rightI with
  | false => rfl
  | true =>
    have := List.all_eq_true.1 hc l[k] (List.getElem_mem h)
    rw [h1] at this; cases this
set_option maxHeartbeats 4000000 in
theorem rightList_any (w : World) (A : Option Addr) (c : Nat) (l : List (Int × Int)) (hb : InfS w w.heap.size A l) (hl : l.length ≤ 4611686018427387904) :
    Calls Try.prog 53 #[.slice A l.length c] w (RetV w (.bool (allR l))) := by
  have hF : Hid (∀ w' r, Below w.heap.size w w' → r = allR l → RetV w (.bool (allR l)) (.returned (.bool r)) w') := hide fun w' r hb hr => ⟨by rw [hr], hb⟩
  have HE : Hid (allR l = (decide (1 ≤ l.length) && (decide (l.length ≤ 16) && l.all rightI))) := hide rfl
  generalize allR l = R at hF HE ⊢
  obtain ⟨n, hn⟩ : ∃ n, n = l.length := ⟨_, rfl⟩
  have HN := hide hn
  rw [← hn] at hl HE ⊢
  have HB := hide hb
  clear hb hn
  by_cases h1 : 1 ≤ n
  · by_cases h16 : n ≤ 16
    · have HA : Hid (R = l.all rightI) := hide (by rw [HE.out, decide_eq_true h1, decide_eq_true h16]; rfl)
      clear HE
      obtain ⟨b, off, rfl, hbB, hc⟩ := HB.out (by rw [← HN.out]; omega)
      have HBW := hide hbB
      have HC := hide hc
      have hr0 : Hid (Below w.heap.size w w) := hide (Below.refl _ _)
      clear hbB hc
      go_enter Try.func53, Try.ntmps53
      go_wp2
      go_loopw [15] (fun v wr => ∃ k : Nat, k ≤ n ∧ v = .int .i64 (k : Int) ∧ Hid ((l.take k).all rightI = true) ∧ Hid (Below w.heap.size w wr)) (fun v _ => n - (intOf v).toNat)
      case atStart => exact ⟨0, by omega, rfl, hide rfl, hr0⟩
      case round =>
        obtain ⟨k, hk, rfl, hok, hbel⟩ := hrel
        by_cases hlt : k < n
        · have hkl : k < l.length := by rw [← HN.out]; exact hlt
          obtain ⟨g1, g2⟩ := HC.out k hkl
          have ht := allI_take hkl hok.out
          have hnot := fun h => allI_not (l := l) (k := k) hkl h
          obtain ⟨y, hy⟩ : ∃ y, y = l[k] := ⟨_, rfl⟩
          rw [← hy] at g1 g2 ht hnot
          have KY := hide (fun W => rightI_any W y)
          obtain ⟨q, hq⟩ : ∃ q, q = rightI y := ⟨_, rfl⟩
          rw [← hq] at KY ht hnot
          obtain ⟨ys, yc⟩ := y
          unfold infV infA at KY
          have i1 : wr.cell? ⟨b, off + k * 2, none⟩ = some (.int .i64 ys) := (hbel.out.cell (show (⟨b, off + k * 2, none⟩ : Addr).block < w.heap.size from HBW.out)).trans g1
          have i2 : wr.cell? ⟨b, off + k * 2 + 1, none⟩ = some (.int .i64 yc) := (hbel.out.cell (show (⟨b, off + k * 2 + 1, none⟩ : Addr).block < w.heap.size from HBW.out)).trans g2
          have hbs := hide hbel.out.size
          have hBA := hide (hbel.out.alloc hbs.out (.cells #[.int .i64 ys, .int .i64 yc] 24))
          have hBAs := hide hBA.out.size
          have hxv : (#[Value.int IntKind.i64 ys, Value.int .i64 yc] : Array Value).extract 0 2 = #[Value.int IntKind.i64 ys, Value.int .i64 yc] := rfl
          have hao : allOne #[Value.int .i64 ys, Value.int .i64 yc] = true := by simp [allOne, Value.oneCell']
          have HNOT := hide hnot
          have HT := hide ht
          have hji : (k : Int) < (n : Int) := by omega
          clear hy hq g1 g2 hnot ht hkl
          go_wp2_with fail
          refine (KY.out _).mono ?_
          rintro e w2 ⟨rfl, b2⟩
          have B2 := hide (hBA.out.trans (b2.mono hBAs.out))
          clear b2
          dsimp only
          cases q
          · have hR : Hid (R = false) := hide (by rw [HA.out, HNOT.out (by first | rfl | trivial)])
            go_wp2
            go_ret
            exact hF.out _ _ B2.out hR.out.symm
          · have hT2 : Hid ((l.take (k + 1)).all rightI = true) := hide HT.out
            go_wp2
            go_roundw
            case rel => exact ⟨k + 1, by omega, by go_num, hT2, B2⟩
            case measure => simp [intOf]; omega
        · obtain rfl : k = n := by omega
          have hR : Hid (R = true) := hide (by
            rw [HA.out]
            have := hok.out
            rwa [List.take_of_length_le (by rw [HN.out]; exact Nat.le_refl _)] at this)
          clear hlt
          go_wp2
          go_ret
          exact hF.out _ _ hbel.out hR.out.symm
    · have hR : Hid (R = false) := hide (by rw [HE.out, decide_eq_false h16]; simp)
      have hgt : (n : Int) > 16 := by omega
      have hge : (1 : Int) ≤ (n : Int) := by omega
      go_enter Try.func53, Try.ntmps53
      go_wp2
      go_ret
      exact hF.out _ _ (Below.refl _ _) hR.out.symm
  · have hR : Hid (R = false) := hide (by rw [HE.out, decide_eq_false h1]; rfl)
    obtain rfl : n = 0 := by omega
    go_enter Try.func53, Try.ntmps53
    go_wp2
    go_ret
    exact hF.out _ _ (Below.refl _ _) hR.out.symm
/-- what Read hands back. -/
def ReadP (w : World) (l : List (Int × Int)) (E : Int) (e : Ending) (w' : World) : Prop :=
  ∃ A c T, T = l.length ∧ e = .returned (.tuple #[.slice A T c, .int .i64 E]) ∧ T ≤ c ∧ InfS w' w'.heap.size A l ∧ Below w.heap.size w w'
theorem resR_bad {l : List UInt8} (e : endR l = 0) (e' : allR (runR l (cntR l)).acc = false) : resL l = [] ∧ resE l = 11 := by
  have hc : ¬ (endR l ≠ 0) := by simpa using e
  unfold resL resE
  rw [if_neg hc, if_neg hc]
  exact ⟨if_neg (by rw [e']; simp), if_neg (by rw [e']; simp)⟩
theorem resR_ok {l : List UInt8} (e : endR l = 0) (e' : allR (runR l (cntR l)).acc = true) : resL l = (runR l (cntR l)).acc ∧ resE l = 0 := by
  have hc : ¬ (endR l ≠ 0) := by simpa using e
  unfold resL resE
  rw [if_neg hc, if_neg hc]
  exact ⟨if_pos e', if_pos e'⟩
theorem info_infR : (Try.prog.info? 24).map (fun i => (i.zero, i.size, i.bytes)) = some (some (.agg #[.int .i64 0, .int .i64 0]), 2, 16) := by kernel_rfl
theorem wrap_i64u {n : Nat} (h : n < 9223372036854775808) : IntKind.i64.wrap (n : Int) = (n : Int) := by rw [IntKind.wrap_i64]; omega
set_option maxHeartbeats 8000000 in
theorem readM_any (w : World) (A : Option Addr) (c : Nat) (l : List UInt8) (hc : l.length ≤ c) (hn : l.length ≤ 140737488420864) (hb : Byt w w.heap.size A l) :
    Calls Try.prog 36 #[.slice A l.length c] w (ReadP w (resL l) (resE l)) := by
  have KN := hide (newS w w.heap.size A l c hn hb (Nat.le_refl _))
  obtain ⟨N, hN⟩ : ∃ N, N = cntR l := ⟨_, rfl⟩
  have hN256 : N < 256 := by rw [hN]; exact cntR_lt l
  have HN := hide hN
  have HLN := hide hn
  have HR1 : Hid (endR l ≠ 0 → resL l = [] ∧ resE l = endR l) := hide fun e => by unfold resL resE; rw [if_pos e, if_pos e]; exact ⟨rfl, rfl⟩
  have HR2 : Hid (endR l = 0 → allR (runR l N).acc = false → resL l = [] ∧ resE l = 11) := hide (hN ▸ resR_bad)
  have HR3 : Hid (endR l = 0 → allR (runR l N).acc = true → resL l = (runR l N).acc ∧ resE l = 0) := hide (hN ▸ resR_ok)
  have HEN : Hid (endS l.length (runR l N).k (runR l N).er = endR l) := hide (by rw [hN]; rfl)
  generalize resL l = RL at HR1 HR2 HR3 ⊢
  generalize resE l = RE at HR1 HR2 HR3 ⊢
  generalize endR l = EE at HR1 HR2 HR3 HEN
  obtain ⟨i0, hi, hz0, hz1, hz2⟩ := info_parts info_infR
  clear hN hn hb
  go_enter Try.func36, Try.ntmps36
  go_wp2_with fail
  refine KN.out.mono ?_
  rintro e w1 ⟨g, A', c', rfl, hR, hl', hat, hg, hb1⟩
  have HB1 := hide hb1
  have HR := hide hR
  have HG := hide hg
  have HGL := hide hR.rd.lt
  clear KN hb1 hR hat hg
  dsimp only
  go_wp2_with fail
  refine (numU (g := g) (A := A') (l := l) (c := c') (k := 0) (er := 0) w1 1 HR.out hl' HLN.out).mono ?_
  rintro e w2 ⟨rfl, hR2, hg2⟩
  have HB2 := hide (below_turn HB1.out hg2 HG.out)
  have HR2' : Hid (RdS g A' l c' w2 (runR l 0).k (runR l 0).er) := hide hR2
  have HW2 := hide hg2.size
  have hN0 : (numQ l 0 0 1).2.1 = N := HN.out.symm
  rw [hN0]
  clear hR2 hg2 hN0 HR
  dsimp only
  go_wp2
  go_loopw [5, 11] (fun v i wr => ∃ j : Nat, j ≤ N ∧ i = .int .u64 (j : Int) ∧ Hid (RdS g A' l c' wr (runR l j).k (runR l j).er ∧ wr.ownsRow w1.heap.size 24 2 v j (infC (runR l j).acc) ∧ Below w.heap.size w wr ∧ w1.heap.size ≤ wr.heap.size)) (fun _ i _ => N - (intOf i).toNat)
  case atStart => exact ⟨0, by omega, rfl, hide ⟨HR2'.out, World.ownsRow_nil _ _ _ _, HB2.out, HW2.out⟩⟩
  case round =>
    obtain ⟨j, hj, rfl, hI⟩ := hrel
    by_cases hlt : j < N
    · have hji : (j : Int) < (N : Int) := by omega
      go_wp2_with fail
      refine (numU (g := g) (A := A') (l := l) (c := c') wr 1 hI.out.1 hl' HLN.out).mono ?_
      rintro e w3 ⟨rfl, hR3, hg3⟩
      have ho3 := hI.out.2.1.kept hg3 (own_ne hI.out.2.1 hI.out.1.rd.blk (by decide))
      have HI3 := hide (And.intro hR3 (And.intro ho3 (And.intro (below_turn hI.out.2.2.1 hg3 HG.out) (Nat.le_trans hI.out.2.2.2 hg3.size))))
      have hx1 : (numQ l (runR l j).k (runR l j).er 1).2.1 < 256 := by
        have := numQ_lt l (runR l j).k (runR l j).er 1 (by decide) (by decide) (runR_le l j)
        simpa using this
      obtain ⟨x, hx⟩ : ∃ x, x = (numQ l (runR l j).k (runR l j).er 1).2.1 := ⟨_, rfl⟩
      rw [← hx] at hx1 ⊢
      have HX := hide hx
      clear hR3 hg3 ho3 hI hx
      dsimp only
      go_wp2_with fail
      refine (numU (g := g) (A := A') (l := l) (c := c') w3 6 HI3.out.1 hl' HLN.out).mono ?_
      rintro e w4 ⟨rfl, hR4, hg4⟩
      have ho4 := HI3.out.2.1.kept hg4 (own_ne HI3.out.2.1 HI3.out.1.rd.blk (by decide))
      have HI4 := hide (And.intro hR4 (And.intro ho4 (And.intro (below_turn HI3.out.2.2.1 hg4 HG.out) (Nat.le_trans HI3.out.2.2.2 hg4.size))))
      have hy1 : (numQ l (numQ l (runR l j).k (runR l j).er 1).1 (numQ l (runR l j).k (runR l j).er 1).2.2 6).2.1 < 281474976710656 := by
        have := numQ_lt l (numQ l (runR l j).k (runR l j).er 1).1 (numQ l (runR l j).k (runR l j).er 1).2.2 6 (by decide) (by decide) (numQ_le (runR_le l j))
        simpa using this
      obtain ⟨y, hy⟩ : ∃ y, y = (numQ l (numQ l (runR l j).k (runR l j).er 1).1 (numQ l (runR l j).k (runR l j).er 1).2.2 6).2.1 := ⟨_, rfl⟩
      rw [← hy] at hy1 ⊢
      have HY := hide hy
      clear hR4 hg4 ho4 HI3 hy
      dsimp only
      have hbi := built_inf2 (x : Int) (y : Int)
      have hwx := wrap_i64u (show x < 9223372036854775808 by omega)
      have hwy := wrap_i64u (show y < 9223372036854775808 by omega)
      have hlit := heap_alloc_new w4 (.cells #[.int .i64 (x : Int), .int .i64 (y : Int)] 24)
      have HLIT := hide hlit
      have hO := hide (World.ownsRow.alloc HI4.out.2.1 (.cells #[.int .i64 (x : Int), .int .i64 (y : Int)] 24))
      clear hlit
      go_wp2_with (at_builtin; refine wpList_app_two rfl (.tmp 13) (.tmp 21) w1.heap.size 64 24 i0 _ 16 rfl Try.underlying64 hi hz0 hz1 hz2 rfl _ j (infC (runR l j).acc) (some ⟨w4.heap.size, 0, none⟩) 1 1 [.int .i64 (x : Int), .int .i64 (y : Int)] rfl rfl hO.out rfl (fun _ => ⟨w4.heap.size, 0, rfl, fun n u hu => by rw [cell_of_row _ _ (0 + n) _ _ (0, 0) HLIT.out, Nat.zero_add]; simpa using hu⟩) (fun e => by cases e) (fun u hu => by simp at hu; rcases hu with rfl | rfl <;> rfl) (by unfold maxLen; omega) (by omega) (by have := HI4.out.2.2.2; simp; omega) ?_)
      intro v5 w5 hown5 hgr5 hat5
      have hlt5 := fun k hk => (World.ownsRow.lt hO.out k hk).1
      have hgr5' := (World.grownBy_alloc w4 (.cells #[.int .i64 (x : Int), .int .i64 (y : Int)] 24) _).trans hgr5
      have HI5 : Hid (RdS g A' l c' w5 (runR l (j + 1)).k (runR l (j + 1)).er ∧ w5.ownsRow w1.heap.size 24 2 v5 (j + 1) (infC (runR l (j + 1)).acc) ∧ Below w.heap.size w w5 ∧ w1.heap.size ≤ w5.heap.size) := hide ⟨HI4.out.1.grow hgr5' (fun i hi => by have := hlt5 i hi; have := HGL.out; omega), by
          have e : (runR l (j + 1)).acc = (runR l j).acc ++ [((x : Int), (y : Int))] := by rw [HX.out, HY.out]; rfl
          rw [e, infC_snoc]; exact hown5, HI4.out.2.2.1.grown hgr5' HI4.out.2.2.1.size (fun k hk => by have := hlt5 k hk; have := HB1.out.size; omega), Nat.le_trans HI4.out.2.2.2 hgr5'.size⟩
      clear hown5 hgr5 hat5 hlt5 hgr5' hO HI4
      go_wp2
      go_roundw
      case rel => exact ⟨j + 1, by omega, by go_num, HI5⟩
      case measure => simp [intOf]; omega
    · obtain rfl : j = N := by omega
      obtain ⟨Av, cv, hv, hvc, hvs⟩ := row_infs (l := (runR l j).acc) (by rw [runR_len]; exact hI.out.2.1)
      rw [runR_len] at hv hvc
      subst hv
      go_wp2_with fail
      refine (end_any wr g A' l.length c' _ _ hI.out.1.rd HLN.out hI.out.1.le).mono ?_
      rintro e w3 ⟨rfl, q, rfl⟩
      rw [HEN.out]
      have HV : Hid (InfS (wr.drewN q) (wr.drewN q).heap.size Av (runR l j).acc) := hide hvs
      have HB3 : Hid (Below w.heap.size w (wr.drewN q)) := hide ⟨hI.out.2.2.1.os, hI.out.2.2.1.tape, hI.out.2.2.1.output, hI.out.2.2.1.size, hI.out.2.2.1.block⟩
      have HVC := hide hvc
      obtain ⟨W3, hW3⟩ : ∃ W3, W3 = wr.drewN q := ⟨_, rfl⟩
      rw [← hW3] at HV HB3 ⊢
      clear hI hvs hvc hW3
      dsimp only
      by_cases hE : EE = 0
      · subst hE
        have KA := rightList_any W3 Av cv (runR l j).acc HV.out (by rw [runR_len]; omega)
        rw [runR_len] at KA
        obtain ⟨q1, hq1⟩ : ∃ q, q = allR (runR l j).acc := ⟨_, rfl⟩
        rw [← hq1] at KA HR2 HR3
        clear hq1
        go_wp2_with fail
        refine KA.mono ?_
        rintro e w4 ⟨rfl, b4⟩
        have HV4 := hide ((HV.out.below b4 (Nat.le_refl _)).more b4.size)
        have HB4 := hide (HB3.out.trans (b4.mono HB3.out.size))
        clear b4 KA
        dsimp only
        cases q1
        · have HE := hide (HR2.out (by first | rfl | trivial) (by first | rfl | trivial))
          go_wp2
          go_ret2
          rw [HE.out.1, HE.out.2]
          exact ⟨none, 0, 0, rfl, rfl, Nat.le_refl _, InfS.nil _ _ _, HB4.out⟩
        · have HE := hide (HR3.out (by first | rfl | trivial) (by first | rfl | trivial))
          go_wp2
          go_ret2
          rw [HE.out.1, HE.out.2]
          exact ⟨Av, cv, j, (runR_len l j).symm, rfl, HVC.out, HV4.out, HB4.out⟩
      · have hEb : (EE == 0) = false := by simpa using hE
        have hEn : (EE != 0) = true := by simpa using hE
        have HE := hide (HR1.out hE)
        clear hE
        go_wp2
        go_ret2
        rw [HE.out.1, HE.out.2]
        exact ⟨none, 0, 0, rfl, rfl, Nat.le_refl _, InfS.nil _ _ _, HB3.out⟩
end Go.Proofs.Ytpbgbfmpjgkllaa
