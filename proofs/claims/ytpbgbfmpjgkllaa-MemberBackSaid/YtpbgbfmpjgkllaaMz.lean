/-
  How all are in some bytes: the document's Read.
-/
import Derived.Test.YtpbgbfmpjgkllaaMy
import Derived.Test.YtpbgbfmpjgkllaaMu
import Derived.Laws.Tables
namespace Go.Proofs.Ytpbgbfmpjgkllaa
open Go.RowKit
set_option maxRecDepth 100000
set_option linter.unusedVariables false
set_option linter.unusedSimpArgs false
attribute [local go_sem ↓] exec_span exec_put exec_build heap_alloc_new heap_old
attribute [local go_sem] spanQ_ptr spanC_some heap_of_drew heap_of_drewN putAt_ptr putOk_ptr oldOk_some World.setRow_alloc_new rs_inf rs_view rs_rinf

theorem own_far {w : World} {base e s n : Nat} {v : Value} {xs : List Value} (h : w.ownsRow base e s v n xs) {g : Nat} (hg : g < base ∨ w.heap.size ≤ g) : v.ownBlock = none ∨ v.ownBlock ≠ some g := by
  cases hv : v.ownBlock with
  | none => exact .inl rfl
  | some k =>
    refine .inr fun e => ?_
    cases e
    have := World.ownsRow.lt h g hv
    omega
theorem grown_rowM (w : World) (g : Nat) (cs : Array Value) : w.grownBy (w.setRow g cs) (some g) :=
  ⟨rfl, rfl, rfl, by simp, fun k _ hk => setRow_other w g k cs (fun e => hk (by rw [e]))⟩
theorem info_rinfR : (Try.prog.info? 23).map (fun i => (i.zero, i.size, i.bytes)) = some (some (.agg #[.int .i64 0, .int .i64 0]), 2, 16) := by kernel_rfl
theorem built_rinf1 (s : Int) : Try.prog.built 23 [(0, .int .i64 s)] = some #[.int .i64 s, .int .i64 0] := by kernel_rfl
theorem wrap_i64v {n : Nat} (h : n < 9223372036854775808) : IntKind.i64.wrap (n : Int) = (n : Int) := by rw [IntKind.wrap_i64]; omega
theorem endR_err {l : List UInt8} {j : Nat} (hj : j ≤ cntR l) (h : (runR l j).er ≠ 0) : endR l ≠ 0 := by
  rw [← endR_early hj h, endS_err h]; exact h
set_option maxHeartbeats 8000000 in
theorem readD_any (w : World) (A : Option Addr) (c : Nat) (l : List UInt8) (hc : l.length ≤ c) (hn : l.length ≤ 140737488355328) (hb : Byt w w.heap.size A l) (hnil : A = none → c = 0) :
    Calls Try.prog 37 #[.slice A l.length c] w (ReadP w (resL l) (resE l)) := by
  have KN := hide (ofS w w.heap.size A l c hn hb (Nat.le_refl _) hnil)
  obtain ⟨N, hN⟩ : ∃ N, N = cntR l := ⟨_, rfl⟩
  have hN256 : N < 256 := by rw [hN]; exact cntR_lt l
  have HN := hide hN
  have HLN := hide hn
  have HR1 : Hid (endR l ≠ 0 → resL l = [] ∧ resE l = endR l) := hide fun e => by unfold resL resE; rw [if_pos e, if_pos e]; exact ⟨rfl, rfl⟩
  have HR2 : Hid (endR l = 0 → allR (runR l N).acc = false → resL l = [] ∧ resE l = 11) := hide (hN ▸ resR_bad)
  have HR3 : Hid (endR l = 0 → allR (runR l N).acc = true → resL l = (runR l N).acc ∧ resE l = 0) := hide (hN ▸ resR_ok)
  have HEN : Hid (endS l.length (runR l N).k (runR l N).er = endR l) := hide (by rw [hN]; rfl)
  have HEJ : Hid (∀ j, j ≤ N → (runR l j).er ≠ 0 → endS l.length (runR l j).k (runR l j).er = endR l ∧ endR l ≠ 0) := hide fun j hj he => ⟨endR_early (hN ▸ hj) he, endR_err (hN ▸ hj) he⟩
  generalize resL l = RL at HR1 HR2 HR3 ⊢
  generalize resE l = RE at HR1 HR2 HR3 ⊢
  generalize endR l = EE at HR1 HR2 HR3 HEN HEJ
  obtain ⟨i0, hi, hz0, hz1, hz2⟩ := info_parts info_rinfR
  clear hN hn hb
  go_enter Try.func37, Try.ntmps37
  go_wp2_with fail
  refine KN.out.mono ?_
  rintro e w1 ⟨g, A', c', rfl, hR, hl', hnl, hg, hb1⟩
  have HB1 := hide hb1
  have HR := hide hR
  have HG := hide hg
  have HGL := hide hR.rr.lt
  clear KN hb1 hR hnl hg
  dsimp only
  go_wp2_with fail
  refine (numV (g := g) (B := w.heap.size) (A := A') (l := l) (c := c') (k := 0) (er := 0) w1 1 HR.out hl' HLN.out).mono ?_
  rintro e w2 ⟨rfl, hR2, hg2⟩
  have HB2 := hide (below_turn HB1.out hg2 HG.out)
  have HR2' : Hid (RrS g w.heap.size A' l c' w2 (runR l 0).k (runR l 0).er) := hide hR2
  have HW2 := hide hg2.size
  have hN0 : (numQ l 0 0 1).2.1 = N := HN.out.symm
  rw [hN0]
  have hwN := wrap_i64v (show N < 9223372036854775808 by omega)
  clear hR2 hg2 hN0 HR
  dsimp only
  go_wp2
  go_loopw [6, 7] (fun v i wr => ∃ (v' : Value) (j : Nat), j ≤ N ∧ v' = v ∧ i = .int .i64 (j : Int) ∧ Hid (RrS g w.heap.size A' l c' wr (runR l j).k (runR l j).er ∧ wr.ownsRow w1.heap.size 23 2 v' j (infC (runR l j).acc) ∧ Below w.heap.size w wr ∧ w1.heap.size ≤ wr.heap.size)) (fun _ i _ => N - (intOf i).toNat)
  case atStart => exact ⟨_, 0, by omega, rfl, rfl, hide ⟨HR2'.out, World.ownsRow_nil _ _ _ _, HB2.out, HW2.out⟩⟩
  case round =>
    obtain ⟨v, j, hj, rfl, rfl, hI⟩ := hrel
    have d2 := hI.out.1.rr.c2
    have HJ := hide (HEJ.out j hj)
    by_cases hlt : j < N
    · have hji : (j : Int) < (N : Int) := by omega
      by_cases he : (runR l j).er = 0
      · rw [he] at d2
        go_wp2_with fail
        refine (numV (g := g) (B := w.heap.size) (A := A') (l := l) (c := c') wr 1 hI.out.1 hl' HLN.out).mono ?_
        rintro e w3 ⟨rfl, hR3, hg3⟩
        have ho3 := hI.out.2.1.kept hg3 (own_far hI.out.2.1 (.inl HGL.out))
        have HI3 := hide (And.intro hR3 (And.intro ho3 (And.intro (below_turn hI.out.2.2.1 hg3 HG.out) (Nat.le_trans hI.out.2.2.2 hg3.size))))
        have hx1 : (numQ l (runR l j).k (runR l j).er 1).2.1 < 256 := by
          have := numQ_lt l (runR l j).k (runR l j).er 1 (by decide) (by decide) (runR_le l j)
          simpa using this
        obtain ⟨x, hx⟩ : ∃ x, x = (numQ l (runR l j).k (runR l j).er 1).2.1 := ⟨_, rfl⟩
        rw [← hx] at hx1 ⊢
        have HX := hide hx
        clear hR3 hg3 ho3 hI hx d2 HJ
        have hwx := wrap_i64v (show x < 9223372036854775808 by omega)
        have hbi := built_rinf1 (x : Int)
        dsimp only
        go_upto_region 8 with (fail)
        obtain ⟨w3', hw3, r_x, z3, b3⟩ := alloc_nam w3 (.cells #[.int .i64 (x : Int), .int .i64 0] 23)
        have hg3' := World.grownBy_alloc w3 (.cells #[.int .i64 (x : Int), .int .i64 0] 23) none
        rw [hw3] at hg3' ⊢
        have hsz3 := HI3.out.2.2.2
        have HXV := hide (own_far HI3.out.2.1 (g := w3.heap.size) (.inr (Nat.le_refl _)))
        replace HI3 := hide (And.intro (HI3.out.1.grow hg3' (fun _ e => by cases e)) (And.intro (HI3.out.2.1.kept hg3' (by cases v.ownBlock <;> simp)) (And.intro (HI3.out.2.2.1.trans (b3.mono HI3.out.2.2.1.size)) (Nat.le_trans HI3.out.2.2.2 b3.size))))
        obtain ⟨bx, hbx⟩ : ∃ bx, bx = w3.heap.size := ⟨_, rfl⟩
        rw [← hbx] at r_x HXV hsz3 z3 ⊢
        have HXG := hide (show w1.heap.size ≤ bx from hsz3)
        have HXL := hide (show bx < w3'.heap.size by omega)
        clear hw3 hg3' b3 hbx z3 hsz3
        go_wp2_with fail
        refine (numV (g := g) (B := w.heap.size) (A := A') (l := l) (c := c') w3' 6 HI3.out.1 hl' HLN.out).mono ?_
        rintro e w4 ⟨rfl, hR4, hg4⟩
        have hxg : g < bx := Nat.lt_of_lt_of_le HGL.out HXG.out
        replace r_x := (hg4.block bx HXL.out (by intro e; cases e; omega)).trans r_x
        replace HXL := hide (Nat.lt_of_lt_of_le HXL.out hg4.size)
        have ho4 := HI3.out.2.1.kept hg4 (own_far HI3.out.2.1 (.inl HGL.out))
        have HI4 := hide (And.intro hR4 (And.intro ho4 (And.intro (below_turn HI3.out.2.2.1 hg4 HG.out) (Nat.le_trans HI3.out.2.2.2 hg4.size))))
        have hy1 : (numQ l (numQ l (runR l j).k (runR l j).er 1).1 (numQ l (runR l j).k (runR l j).er 1).2.2 6).2.1 < 281474976710656 := by
          have := numQ_lt l (numQ l (runR l j).k (runR l j).er 1).1 (numQ l (runR l j).k (runR l j).er 1).2.2 6 (by decide) (by decide) (numQ_le (runR_le l j))
          simpa using this
        obtain ⟨y, hy⟩ : ∃ y, y = (numQ l (numQ l (runR l j).k (runR l j).er 1).1 (numQ l (runR l j).k (runR l j).er 1).2.2 6).2.1 := ⟨_, rfl⟩
        rw [← hy] at hy1 ⊢
        have HY := hide hy
        clear hR4 hg4 ho4 HI3 hy
        dsimp only
        have hwy := wrap_i64v (show y < 9223372036854775808 by omega)
        have x1 := cell_of_row w4 bx 1 _ _ (0, 0) r_x
        have x1f := frozen_of_row w4 bx 1 _ _ r_x
        have r5 := heap_setCell_same w4 bx 1 _ _ (.int .i64 (y : Int)) r_x
        have g5 := grown_set w4 bx 1 (.int .i64 (y : Int))
        have R5 := hide r5
        have G5 := hide g5
        clear r5 g5
        go_upto_region 9 with (fail)
        obtain ⟨w5, hw5⟩ : ∃ W, W = w4.setCell ⟨bx, 1, none⟩ (.int .i64 (y : Int)) := ⟨_, rfl⟩
        rw [← hw5] at R5 G5 ⊢
        have hbl : Below w.heap.size w w5 := HI4.out.2.2.1.grown G5.out HI4.out.2.2.1.size (fun k e => by cases e; exact Nat.le_trans HB1.out.size HXG.out)
        replace HI4 := hide (And.intro (HI4.out.1.grow G5.out (fun i e => by cases e; exact hxg)) (And.intro (HI4.out.2.1.kept G5.out HXV.out) (And.intro hbl (Nat.le_trans HI4.out.2.2.2 G5.out.size))))
        replace r_x : w5.heap[bx]? = some (.cells #[.int .i64 (x : Int), .int .i64 (y : Int)] 23 (0, 0)) := R5.out
        clear hw5 R5 G5 hbl x1 x1f
        have hlit := heap_alloc_new w5 (.cells #[.int .i64 (x : Int), .int .i64 (y : Int)] 23)
        have HLIT := hide hlit
        have hO := hide (World.ownsRow.alloc HI4.out.2.1 (.cells #[.int .i64 (x : Int), .int .i64 (y : Int)] 23))
        clear hlit
        go_wp2_with (at_builtin; refine wpList_app_two rfl (.tmp 36) (.tmp 38) w1.heap.size 60 23 i0 _ 16 rfl Try.underlying60 hi hz0 hz1 hz2 rfl _ j (infC (runR l j).acc) (some ⟨w5.heap.size, 0, none⟩) 1 1 [.int .i64 (x : Int), .int .i64 (y : Int)] rfl rfl hO.out rfl (fun _ => ⟨w5.heap.size, 0, rfl, fun n u hu => by rw [cell_of_row _ _ (0 + n) _ _ (0, 0) HLIT.out, Nat.zero_add]; simpa using hu⟩) (fun e => by cases e) (fun u hu => by simp at hu; rcases hu with rfl | rfl <;> rfl) (by unfold maxLen; omega) (by omega) (by have := HI4.out.2.2.2; simp; omega) ?_)
        intro v6 w6 hown6 hgr6 hat6
        have hlt6 := fun k hk => (World.ownsRow.lt hO.out k hk).1
        have hgr6' := (World.grownBy_alloc w5 (.cells #[.int .i64 (x : Int), .int .i64 (y : Int)] 23) _).trans hgr6
        have HI6 : Hid (RrS g w.heap.size A' l c' w6 (runR l (j + 1)).k (runR l (j + 1)).er ∧ w6.ownsRow w1.heap.size 23 2 v6 (j + 1) (infC (runR l (j + 1)).acc) ∧ Below w.heap.size w w6 ∧ w1.heap.size ≤ w6.heap.size) := hide ⟨HI4.out.1.grow hgr6' (fun i hi => by have := hlt6 i hi; have := HGL.out; omega), by
            have e : (runR l (j + 1)).acc = (runR l j).acc ++ [((x : Int), (y : Int))] := by rw [HX.out, HY.out]; rfl
            rw [e, infC_snoc]; exact hown6, HI4.out.2.2.1.grown hgr6' HI4.out.2.2.1.size (fun k hk => by have := hlt6 k hk; have := HB1.out.size; omega), Nat.le_trans HI4.out.2.2.2 hgr6'.size⟩
        clear hown6 hgr6 hat6 hlt6 hgr6' hO HI4
        go_wp2
        go_roundw
        case rel => exact ⟨_, j + 1, by omega, rfl, by go_num, HI6⟩
        case measure => simp [intOf]; omega
      · have hei : ((runR l j).er == 0) = false := by simpa using he
        have HE1 := hide (HJ.out he)
        go_wp2_with fail
        refine (endq_any wr g A' l.length c' _ _ hI.out.1.rr (by have := HLN.out; omega) hI.out.1.le).mono ?_
        rintro e w3 ⟨rfl, q, rfl⟩
        rw [HE1.out.1]
        have hEb : (EE == 0) = false := by simpa using HE1.out.2
        have hEn : (EE != 0) = true := by simpa using HE1.out.2
        have HE := hide (HR1.out HE1.out.2)
        have HB3 : Hid (Below w.heap.size w (wr.drewN q)) := hide ⟨hI.out.2.2.1.os, hI.out.2.2.1.tape, hI.out.2.2.1.output, hI.out.2.2.1.size, hI.out.2.2.1.block⟩
        dsimp only
        go_wp2
        go_ret2
        rw [HE.out.1, HE.out.2]
        exact ⟨none, 0, 0, rfl, rfl, Nat.le_refl _, InfS.nil _ _ _, HB3.out⟩
    · obtain rfl : j = N := by omega
      obtain ⟨Av, cv, hv, hvc, hvs⟩ := row_infs (l := (runR l j).acc) (by rw [runR_len]; exact hI.out.2.1)
      rw [runR_len] at hv hvc
      subst hv
      go_wp2_with fail
      refine (endq_any wr g A' l.length c' _ _ hI.out.1.rr (by have := HLN.out; omega) hI.out.1.le).mono ?_
      rintro e w3 ⟨rfl, q, rfl⟩
      rw [HEN.out]
      have HV : Hid (InfS (wr.drewN q) (wr.drewN q).heap.size Av (runR l j).acc) := hide hvs
      have HB3 : Hid (Below w.heap.size w (wr.drewN q)) := hide ⟨hI.out.2.2.1.os, hI.out.2.2.1.tape, hI.out.2.2.1.output, hI.out.2.2.1.size, hI.out.2.2.1.block⟩
      have HVC := hide hvc
      obtain ⟨W3, hW3⟩ : ∃ W3, W3 = wr.drewN q := ⟨_, rfl⟩
      rw [← hW3] at HV HB3 ⊢
      clear hI hvs hvc hW3 HJ d2
      dsimp only
      by_cases hE : EE = 0
      · subst hE
        obtain ⟨L, hL⟩ : ∃ L, L = (runR l j).acc := ⟨_, rfl⟩
        have hLl : L.length = j := by rw [hL]; exact runR_len l j
        rw [← hL] at HV HR2 HR3
        have HLL := hide hLl
        have HA : Hid (allR L = (decide (1 ≤ j) && (decide (j ≤ 16) && L.all rightI))) := hide (by unfold allR; rw [hLl])
        clear hL hLl HEN HEJ HR1 HN
        by_cases h1 : 1 ≤ j
        · have hge : ¬ (j : Int) < 1 := by omega
          by_cases h16 : j ≤ 16
          · have hgt : ¬ (j : Int) > 16 := by omega
            have HAL : Hid (allR L = L.all rightI) := hide (by rw [HA.out, decide_eq_true h1, decide_eq_true h16]; rfl)
            obtain ⟨b, off, rfl, hbB, hcc⟩ := HV.out (by rw [HLL.out]; omega)
            have HBW := hide hbB
            have HC := hide hcc
            have hr0 : Hid (Below W3.heap.size W3 W3) := hide (Below.refl _ _)
            clear hbB hcc HA
            go_wp2
            go_loopw [10] (fun v wr => ∃ k : Nat, k ≤ j ∧ v = .int .i64 (k : Int) ∧ Hid ((L.take k).all rightI = true) ∧ Hid (Below W3.heap.size W3 wr)) (fun v _ => j - (intOf v).toNat)
            case atStart => exact ⟨0, by omega, rfl, hide rfl, hr0⟩
            case round =>
              obtain ⟨k, hk, rfl, hok, hbel⟩ := hrel
              by_cases hlt : k < j
              · have hkl : k < L.length := by rw [HLL.out]; exact hlt
                obtain ⟨g1, g2⟩ := HC.out k hkl
                have ht := allI_take hkl hok.out
                have hnot := fun h => allI_not (l := L) (k := k) hkl h
                obtain ⟨y, hy⟩ : ∃ y, y = L[k] := ⟨_, rfl⟩
                rw [← hy] at g1 g2 ht hnot
                have KY := hide (fun W => rightR_any W y)
                obtain ⟨q, hq⟩ : ∃ q, q = rightI y := ⟨_, rfl⟩
                rw [← hq] at KY ht hnot
                obtain ⟨ys, yc⟩ := y
                unfold infV infA at KY
                have i1 : wr.cell? ⟨b, off + k * 2, none⟩ = some (.int .i64 ys) := (hbel.out.cell (show (⟨b, off + k * 2, none⟩ : Addr).block < W3.heap.size from HBW.out)).trans g1
                have i2 : wr.cell? ⟨b, off + k * 2 + 1, none⟩ = some (.int .i64 yc) := (hbel.out.cell (show (⟨b, off + k * 2 + 1, none⟩ : Addr).block < W3.heap.size from HBW.out)).trans g2
                have hbs := hide hbel.out.size
                have hxv : (#[Value.int IntKind.i64 ys, Value.int .i64 yc] : Array Value).extract 0 2 = #[Value.int IntKind.i64 ys, Value.int .i64 yc] := rfl
                have HNOT := hide hnot
                have HT := hide ht
                have hji : (k : Int) < (j : Int) := by omega
                clear hy hq g1 g2 hnot ht hkl
                go_wp2_with fail
                refine (KY.out _).mono ?_
                rintro e w2 ⟨rfl, b2⟩
                have B2 := hide (hbel.out.trans (b2.mono hbs.out))
                clear b2
                dsimp only
                cases q
                · have hR : Hid (allR L = false) := hide (by rw [HAL.out, HNOT.out (by first | rfl | trivial)])
                  have HE := hide (HR2.out (by first | rfl | trivial) hR.out)
                  go_wp2
                  go_ret2
                  rw [HE.out.1, HE.out.2]
                  exact ⟨none, 0, 0, rfl, rfl, Nat.le_refl _, InfS.nil _ _ _, HB3.out.trans (B2.out.mono HB3.out.size)⟩
                · have hT2 : Hid ((L.take (k + 1)).all rightI = true) := hide HT.out
                  go_wp2
                  go_roundw
                  case rel => exact ⟨k + 1, by omega, by go_num, hT2, B2⟩
                  case measure => simp [intOf]; omega
              · obtain rfl : k = j := by omega
                have hR : Hid (allR L = true) := hide (by
                  rw [HAL.out]
                  have := hok.out
                  rwa [List.take_of_length_le (by rw [HLL.out]; exact Nat.le_refl _)] at this)
                have HE := hide (HR3.out (by first | rfl | trivial) hR.out)
                clear hlt
                go_wp2
                go_ret2
                rw [HE.out.1, HE.out.2]
                exact ⟨_, cv, k, HLL.out.symm, rfl, HVC.out, (HV.out.below hbel.out (Nat.le_refl _)).more hbel.out.size, HB3.out.trans (hbel.out.mono HB3.out.size)⟩
          · have hR : Hid (allR L = false) := hide (by rw [HA.out, decide_eq_false h16]; simp)
            have hge' : (j : Int) > 16 := by omega
            have HE := hide (HR2.out (by first | rfl | trivial) hR.out)
            go_wp2
            go_ret2
            rw [HE.out.1, HE.out.2]
            exact ⟨none, 0, 0, rfl, rfl, Nat.le_refl _, InfS.nil _ _ _, HB3.out⟩
        · have hR : Hid (allR L = false) := hide (by rw [HA.out, decide_eq_false h1]; rfl)
          have HE := hide (HR2.out (by first | rfl | trivial) hR.out)
          have hlt1 : (j : Int) < 1 := by omega
          go_wp2
          go_ret2
          rw [HE.out.1, HE.out.2]
          exact ⟨none, 0, 0, rfl, rfl, Nat.le_refl _, InfS.nil _ _ _, HB3.out⟩
      · have hEb : (EE == 0) = false := by simpa using hE
        have hEn : (EE != 0) = true := by simpa using hE
        have HE := hide (HR1.out hE)
        clear hE
        go_wp2
        go_ret2
        rw [HE.out.1, HE.out.2]
        exact ⟨none, 0, 0, rfl, rfl, Nat.le_refl _, InfS.nil _ _ _, HB3.out⟩
end Go.Proofs.Ytpbgbfmpjgkllaa
