/-
  The law of what is put and told, in whatever order: GossipPlays.
-/
import Derived.Test.YtajpibopknpmmaaYj
import Derived.Test.YtajpibopknpmmaaRowG
namespace Go.Proofs.Ytajpibopknpmmaa
open Go.RowKit
set_option maxRecDepth 100000
set_option linter.unusedVariables false
set_option linter.unusedSimpArgs false
attribute [local go_sem ↓] exec_span exec_put exec_build heap_alloc_new heap_old
attribute [local go_sem] spanQ_ptr spanC_some heap_of_drew heap_of_drewN putAt_ptr putOk_ptr oldOk_some World.setRow_alloc_new

theorem rs_act15 : rowSize Try.prog 32 = some 4 := by kernel_rfl
attribute [local go_sem] rs_act15
/-- a call, as four cells. -/
def actC (a : Act15) (D : Option Addr) (c : Nat) : Array Value := #[.int .i64 a.kind, .int .i64 a.key, .slice D a.b.length c, .int .i64 a.times]
set_option maxHeartbeats 8000000 in
theorem gossipPlays_any (w : World) (most : Int) (A1 : Option Addr) (c1 : Nat) (l1 : List Act15) (h1 : Acts15 w w.heap.size A1 l1) (hok : ∀ a ∈ l1, OkAct a) (hl1 : l1.length ≤ 4611686018427387904) :
    Calls Try.prog 3 #[.int .i64 most, .slice A1 l1.length c1] w (RetV w (.bool true)) := by
  have HI1 := hide h1
  have HOK := hide hok
  obtain ⟨n1, hn1⟩ : ∃ n, n = l1.length := ⟨_, rfl⟩
  rw [← hn1] at hl1
  rw [← hn1]
  have HN1 := hide hn1
  clear h1 hn1 hok
  go_enter Try.func3, Try.ntmps3
  go_wp2_with fail
  refine (newQ_any w most).mono ?_
  rintro e w1 ⟨hbel, ⟨hin, q, mb, rfl, hq, hb, hv⟩ | ⟨hno, rfl⟩⟩
  rotate_left
  · dsimp only
    go_wp2_with fail
    refine (newQR_any w1 most).mono ?_
    rintro e w2 ⟨hbel2, ⟨hin, _⟩ | ⟨_, rfl⟩⟩
    · exact absurd hin hno
    have HB2 := hide (hbel.trans (hbel2.mono hbel.size))
    clear hbel hbel2 hno
    dsimp only
    go_wp2_with fail
    refine (known15_any w2).mono ?_
    rintro e w3 ⟨rfl, hb3⟩
    have HB3 := hide (HB2.out.trans (hb3.mono HB2.out.size))
    clear hb3
    dsimp only
    go_wp2
    go_ret
    exact ⟨rfl, HB3.out⟩
  dsimp only
  go_wp2_with fail
  refine (newQR_any w1 most).mono ?_
  rintro e w2 ⟨hbel2, ⟨_, r, rfl, hr, hR⟩ | ⟨hno, _⟩⟩
  rotate_left
  · exact absurd hin hno
  have HP0 : Hid (PlI w w2 q mb r most (.slice none 0 0) [] [] (fun _ => False) (fun _ => False) (fun _ _ => False)) := hide (by
    have hql := hv.lt
    have hs1 := hbel.size
    refine ⟨⟨hv.below hbel2 (Nat.le_refl _), hR, ⟨by simp; omega, by simp; omega, hin.2⟩, fun g hg => hg.elim, fun g hg => hg.elim, (fun g hg => by cases hg), by omega, by omega⟩, hbel.trans (hbel2.mono hs1), fun g hg => ⟨by have := hbel2.size; omega, fun h => h, fun h => h, by omega, by omega, by omega, (fun h => by cases h)⟩, fun g O hg => hg.elim⟩)
  have HQM := hide (And.intro hq (And.intro hb (Nat.le_trans hbel.size hr)))
  clear hbel hbel2 hv hR hq hb hr hin
  dsimp only
  go_wp2
  go_loopw [8] (fun i wr => ∃ (j : Nat) (v : Value) (L R : List (Int × Nw)) (S T : Nat → Prop), j ≤ 100 ∧ i = .int .i64 (j : Int) ∧ Hid (PlI w wr q mb r most v L R S T (fun _ _ => False)) ∧ Hid (AlikeQ L R)) (fun i _ => 100 - (Go.RowKit.intOf i).toNat)
  case atStart => exact ⟨0, _, [], [], _, _, by omega, rfl, HP0, hide AlikeQ.nil⟩
  case round =>
    obtain ⟨j, v, L, R, S, T, hj, rfl, hI, hA⟩ := hrel
    clear HP0
    have hj0 : (0 : Int) ≤ (j : Int) := by omega
    by_cases hlt : j < n1 ∧ j < 100
    · obtain ⟨ha, hc⟩ := hlt
      have hjl : j < l1.length := by rw [← HN1.out]; exact ha
      obtain ⟨b1, o1, rfl, hb1, hc1⟩ := HI1.out (by omega)
      obtain ⟨e0, e1, ⟨D, cD, e2, hle, hby⟩, e3⟩ := hc1 j hjl
      have hak := HOK.out l1[j] (List.getElem_mem hjl)
      obtain ⟨a, haj⟩ : ∃ a, a = l1[j] := ⟨_, rfl⟩
      rw [← haj] at e0 e1 e2 e3 hle hby hak
      obtain ⟨⟨kd, key, d, t⟩, hax⟩ : ∃ x, x = a := ⟨_, rfl⟩
      subst hax
      dsimp only [OkAct] at e0 e1 e2 e3 hle hby hak
      obtain ⟨m, hm⟩ : ∃ m, m = d.length := ⟨_, rfl⟩
      rw [← hm] at e2
      have k0 : wr.cell? ⟨b1, o1 + j * 4, none⟩ = some (.int .i64 kd) := (hI.out.below.cell (p := ⟨b1, _, none⟩) hb1).trans e0
      have k1 : wr.cell? ⟨b1, o1 + j * 4 + 1, none⟩ = some (.int .i64 key) := (hI.out.below.cell (p := ⟨b1, _, none⟩) hb1).trans e1
      have k2 : wr.cell? ⟨b1, o1 + j * 4 + 2, none⟩ = some (.slice D m cD) := (hI.out.below.cell (p := ⟨b1, _, none⟩) hb1).trans e2
      have k3 : wr.cell? ⟨b1, o1 + j * 4 + 3, none⟩ = some (.int .i64 t) := (hI.out.below.cell (p := ⟨b1, _, none⟩) hb1).trans e3
      have HAK := hide hak
      have HM := hide hm
      have HBY := hide (And.intro hby hle)
      have hai : (j : Int) < (n1 : Int) := by omega
      have hci : (j : Int) < 100 := by omega
      clear hc1 hb1 e0 e1 e2 e3 hle hby hak haj hm
      go_upto_region 11 with (fail)
      obtain ⟨W1, hW1, r1, z1, bb1⟩ := alloc_nm wr (.cells #[.int .i64 kd, .int .i64 key, .slice D m cD, .int .i64 t] 32)
      rw [hW1]
      have HP1 : Hid (PlI w W1 q mb r most v L R S T (fun g o => (fun _ _ => False) g o ∨ (g = wr.heap.size ∧ o = .cells #[.int .i64 kd, .int .i64 key, .slice D m cD, .int .i64 t] 32 (0, 0)))) := hide (hI.out.add bb1 wr.heap.size _ (Nat.le_refl _) r1)
      obtain ⟨B, hB⟩ : ∃ B, B = wr.heap.size := ⟨_, rfl⟩
      rw [← hB] at r1 HP1 ⊢
      have HBw : Hid (w.heap.size ≤ B) := hide (by rw [hB]; exact hI.out.below.size)
      have HBl : Hid (B < W1.heap.size) := hide (Array.getElem?_eq_some_iff.1 r1).1
      clear hW1 z1 bb1 hB k0 k1 k2 k3 hI
      have q0 := (cell_of_row W1 B 0 _ _ (0, 0) r1).trans rfl
      have q1 := (cell_of_row W1 B 1 _ _ (0, 0) r1).trans rfl
      have q2 := (cell_of_row W1 B 2 _ _ (0, 0) r1).trans rfl
      have q3 := (cell_of_row W1 B 3 _ _ (0, 0) r1).trans rfl
      clear r1
      have hk5 : (kd = 0 ∨ kd = 1 ∨ kd = 2) ∨ (kd = 3 ∨ kd = 4) ∨ (kd ≠ 0 ∧ kd ≠ 1 ∧ kd ≠ 2 ∧ kd ≠ 3 ∧ kd ≠ 4) := by omega
      rcases hk5 with hk5 | hk5 | hk5
      · have KL := lent_any D cD d w.heap.size W1 HBY.out.2 (by have := HAK.out.2.2; omega) (HBY.out.1.below HP1.out.below) HP1.out.below.size
        rw [← HM.out] at KL
        have hkz : Hid (kd = 0 ∨ kd = 1 ∨ kd = 2) := hide hk5
        rcases hk5 with rfl | rfl | rfl
        · go_upto_region 18 with (first
            | (go_at_call 11
               (with_reducible refine KL.mono ?_)
               rintro e W2 ⟨rfl, hL2, hb2⟩)
            | fail)
          obtain ⟨o, ho⟩ : ∃ o, o = W1.heap.size := ⟨_, rfl⟩
          have HP2 := HP1.out.add hb2 W1.heap.size _ (Nat.le_refl _) hL2
          rw [← ho] at HP2 ⊢
          have how : w.heap.size ≤ o := by rw [ho]; exact HP1.out.below.size
          have hoB : B ≠ o := by have := HBl.out; omega
          have HP3 := hide (HP2.mono (X' := W2.drew) ⟨rfl, rfl, rfl, Nat.le_refl _, fun _ _ => rfl⟩)
          have HOW := hide (And.intro how hoB)
          clear HP2 how hoB ho hL2 hb2 KL
          obtain ⟨E, hE⟩ : ∃ E, E = putE most L key d t := ⟨_, rfl⟩
          have HER : Hid (putE most R key d t = E) := hide (by rw [hE]; exact hA.out.putE most key d t)
          have KQ1 := put_q_step (k := key) (t := t) HP3.out (.inr ⟨rfl, rfl⟩) HM.out HAK.out.1 HAK.out.2.2
          rw [← hE] at KQ1
          have HE := hide hE
          have KQ1 := hide KQ1
          have KR1 := hide (put_r_step HP3.out HBY.out.1 HM.out HAK.out.1 HAK.out.2.2 HER.out (c := cD))
          clear hE
          have g1 := (cell_of_row W2.drew B 1 _ _ (0, 0) (HP3.out.kept B _ (.inl (.inr ⟨rfl, rfl⟩))).2).trans rfl
          have g2 := (cell_of_row W2.drew B 2 _ _ (0, 0) (HP3.out.kept B _ (.inl (.inr ⟨rfl, rfl⟩))).2).trans rfl
          have g3 := (cell_of_row W2.drew B 3 _ _ (0, 0) (HP3.out.kept B _ (.inl (.inr ⟨rfl, rfl⟩))).2).trans rfl
          go_region_held3 (fun w' => w'.cell? ⟨B, 1, none⟩ = some (.int .i64 key) ∧ w'.cell? ⟨B, 2, none⟩ = some (.slice D m cD) ∧ w'.cell? ⟨B, 3, none⟩ = some (.int .i64 t))
            (first
              | exact ⟨g1, g2, g3⟩
              | exact ⟨gq1, gq2, gq3⟩
              | exact ⟨gr1, gr2, gr3⟩
              | exact ⟨g51, g52, g53⟩
              | fail)
            (first
            | (go_at_call 12
               (with_reducible refine (KQ1.out).mono ?_)
               rintro e wq ⟨rfl, S1, hq1⟩
               have HPq := hide hq1
               have KR2 := hide (put_r_step HPq.out HBY.out.1 HM.out HAK.out.1 HAK.out.2.2 HER.out (c := cD))
               have gq1 := (cell_of_row wq B 1 _ _ (0, 0) (HPq.out.kept B _ (.inl (.inr ⟨rfl, rfl⟩))).2).trans rfl
               have gq2 := (cell_of_row wq B 2 _ _ (0, 0) (HPq.out.kept B _ (.inl (.inr ⟨rfl, rfl⟩))).2).trans rfl
               have gq3 := (cell_of_row wq B 3 _ _ (0, 0) (HPq.out.kept B _ (.inl (.inr ⟨rfl, rfl⟩))).2).trans rfl
               clear hq1)
            | (go_at_call 13
               (with_reducible refine (KR2.out).mono ?_)
               rintro e w5 ⟨rfl, v5, T5, h5⟩
               have HP5 := hide h5
               have KK := hide (kept_step HP5.out (.inr ⟨rfl, rfl⟩) HM.out HBY.out.1 HAK.out.2.2 HBY.out.2)
               have g51 := (cell_of_row w5 B 1 _ _ (0, 0) (HP5.out.kept B _ (.inl (.inr ⟨rfl, rfl⟩))).2).trans rfl
               have g52 := (cell_of_row w5 B 2 _ _ (0, 0) (HP5.out.kept B _ (.inl (.inr ⟨rfl, rfl⟩))).2).trans rfl
               have g53 := (cell_of_row w5 B 3 _ _ (0, 0) (HP5.out.kept B _ (.inl (.inr ⟨rfl, rfl⟩))).2).trans rfl
               clear h5)
            | (go_at_call 13
               (with_reducible refine (KR1.out).mono ?_)
               rintro e wr2 ⟨rfl, v5, T5, hr1⟩
               have HPr := hide hr1
               have KQ2 := put_q_step (k := key) (t := t) HPr.out (.inr ⟨rfl, rfl⟩) HM.out HAK.out.1 HAK.out.2.2
               rw [← HE.out] at KQ2
               have KQ2 := hide KQ2
               have gr1 := (cell_of_row wr2 B 1 _ _ (0, 0) (HPr.out.kept B _ (.inl (.inr ⟨rfl, rfl⟩))).2).trans rfl
               have gr2 := (cell_of_row wr2 B 2 _ _ (0, 0) (HPr.out.kept B _ (.inl (.inr ⟨rfl, rfl⟩))).2).trans rfl
               have gr3 := (cell_of_row wr2 B 3 _ _ (0, 0) (HPr.out.kept B _ (.inl (.inr ⟨rfl, rfl⟩))).2).trans rfl
               clear hr1)
            | (go_at_call 12
               (with_reducible refine (KQ2.out).mono ?_)
               rintro e w5 ⟨rfl, S1, h5⟩
               have HP5 := hide h5
               have KK := hide (kept_step HP5.out (.inr ⟨rfl, rfl⟩) HM.out HBY.out.1 HAK.out.2.2 HBY.out.2)
               have g51 := (cell_of_row w5 B 1 _ _ (0, 0) (HP5.out.kept B _ (.inl (.inr ⟨rfl, rfl⟩))).2).trans rfl
               have g52 := (cell_of_row w5 B 2 _ _ (0, 0) (HP5.out.kept B _ (.inl (.inr ⟨rfl, rfl⟩))).2).trans rfl
               have g53 := (cell_of_row w5 B 3 _ _ (0, 0) (HP5.out.kept B _ (.inl (.inr ⟨rfl, rfl⟩))).2).trans rfl
               clear h5)
            | (go_at_call 14
               (with_reducible refine (KK.out).mono ?_)
               rintro e w6 ⟨rfl, h6⟩
               subst h6)
              | fail)
          all_goals (
            have KS := spoil_step (Kp' := (fun g o => (fun _ _ => False) g o ∨ (g = B ∧ o = .cells #[.int .i64 0, .int .i64 key, .slice D m cD, .int .i64 t] 32 (0, 0)))) HP5.out (.inr ⟨rfl, rfl⟩) HOW.out.1 HM.out HAK.out.2.2 (fun i O h => ⟨.inl h, by rcases h with h | ⟨rfl, _⟩; exact h.elim; exact HOW.out.2⟩)
            have HAX0 := hide (hA.out.putL most key d t HAK.out.1 (by have := HAK.out.2.2; omega))
            clear HP5 KK g51 g52 g53 g1 g2 g3
            go_upto_region 30 with (first
              | (go_at_call 15
                 (with_reducible refine KS.mono ?_)
                 rintro e X ⟨rfl, hX⟩)
              | fail)
            obtain ⟨L9, hL9⟩ : ∃ x, x = putL most L key d t := ⟨_, rfl⟩
            obtain ⟨R9, hR9⟩ : ∃ x, x = putL most R key d t := ⟨_, rfl⟩
            obtain ⟨v9, hv90⟩ : ∃ x, x = v5 := ⟨_, rfl⟩
            obtain ⟨S9, hS9⟩ : ∃ x, x = S1 := ⟨_, rfl⟩
            obtain ⟨T9, hT9⟩ : ∃ x, x = T5 := ⟨_, rfl⟩
            rw [← hL9, ← hR9, ← hv90, ← hS9, ← hT9] at hX
            have HAX : Hid (AlikeQ L9 R9) := hide (by rw [hL9, hR9]; exact HAX0.out)
            have HPX := hide hX
            clear hX hL9 hR9 hv90 hS9 hT9 HAX0 KS
            try clear HPq KR2 KQ1 KR1
            try clear HPr KQ2
            obtain ⟨A9, c9, hv9, -, -⟩ := HPX.out.both.ref.items.slice
            obtain ⟨N, hN⟩ : ∃ N, N = R9.length := ⟨_, rfl⟩
            have hlen9 := HAX.out.len
            rw [← hN] at hv9 hlen9
            obtain ⟨x, hx⟩ : ∃ x, x = leftQ L9 key := ⟨_, rfl⟩
            have hxR : leftQ R9 key = x := by rw [hx]; exact (HAX.out.left key).symm
            have KN : Hid (∀ p : BW X, Calls Try.prog 22 #[.pointer (some ⟨q, 0, none⟩)] p.w fun e w' => e = .returned (.int .i64 (N : Int)) ∧ p.w = w') := hide (fun p => (lenQ_any p.w q mb most L9 S9 (HPX.out.both.que.below p.below (Nat.le_refl _))).mono fun e w' hh => ⟨by rw [hh.1, hlen9], hh.2.symm⟩)
            have KLQ : Hid (∀ p : BW X, Calls Try.prog 20 #[.pointer (some ⟨q, 0, none⟩), .int .i64 key] p.w fun e w' => e = .returned (.int .i64 (x : Int)) ∧ p.w = w') := hide (fun p => (leftQ_any p.w q mb most L9 S9 key (HPX.out.both.que.below p.below (Nat.le_refl _))).mono fun e w' hh => ⟨by rw [hh.1, hx], hh.2.symm⟩)
            have KLR : Hid (∀ p : BW X, Calls Try.prog 21 #[.pointer (some ⟨r, 0, none⟩), .int .i64 key] p.w fun e w' => e = .returned (.int .i64 (x : Int)) ∧ p.w = w') := hide (fun p => (leftR_any p.w r most v9 R9 T9 key (HPX.out.both.ref.below p.below (Nat.le_refl _)) (by have := HPX.out.both.len; omega)).mono fun e w' hh => ⟨by rw [hh.1, hxR], hh.2.symm⟩)
            have y1 := (cell_of_row X B 1 _ _ (0, 0) (HPX.out.kept B _ (.inr ⟨rfl, rfl⟩)).2).trans rfl
            have y2 := (cell_of_row X r 1 _ _ (0, 0) HPX.out.both.ref.row).trans rfl
            rw [hv9] at y2
            have Y1 : ∀ p : BW X, p.w.cell? ⟨B, 1, none⟩ = some (.int .i64 key) := fun p => p.cell y1
            have Y2 : ∀ p : BW X, p.w.cell? ⟨r, 1, none⟩ = some (.slice A9 N c9) := fun p => p.cell y2
            clear hN hlen9 hx hxR y1 y2 hv9
            refine wp_region_below X (Below.refl _ _) (by kernel_rfl) (by kernel_rfl) ?_
            repeat
              first
              | (go_big_quiet_step (first
                | (go_at_call 22; with_reducible exact Calls.bel_same (KN.out _))
                | (go_at_call 20; with_reducible exact Calls.bel_same (KLQ.out _))
                | (go_at_call 21; with_reducible exact Calls.bel_same (KLR.out _))
                | fail))
            refine wpQuiet_nil ?_
            intro _ hw'
            obtain ⟨pq, hw2'⟩ := hw'
            subst hw2'
            have HP9 : Hid (PlI w pq.w q mb r most v9 L9 R9 S9 T9 (fun _ _ => False)) := hide ((HPX.out.mono pq.below).weak (fun _ _ h => h.elim))
            clear Y1 Y2 KN KLQ KLR HPX
            go_wp2
            go_roundw
            case rel => exact ⟨j + 1, v9, L9, R9, S9, T9, by omega, by go_num, HP9, HAX⟩
            case measure => simp [Go.RowKit.intOf]; omega)
        · go_upto_region 18 with (first
            | (go_at_call 11
               (with_reducible refine KL.mono ?_)
               rintro e W2 ⟨rfl, hL2, hb2⟩)
            | fail)
          obtain ⟨o, ho⟩ : ∃ o, o = W1.heap.size := ⟨_, rfl⟩
          have HP2 := HP1.out.add hb2 W1.heap.size _ (Nat.le_refl _) hL2
          rw [← ho] at HP2 ⊢
          have how : w.heap.size ≤ o := by rw [ho]; exact HP1.out.below.size
          have hoB : B ≠ o := by have := HBl.out; omega
          have HP3 := hide (HP2.mono (X' := W2.drew) ⟨rfl, rfl, rfl, Nat.le_refl _, fun _ _ => rfl⟩)
          have HOW := hide (And.intro how hoB)
          clear HP2 how hoB ho hL2 hb2 KL
          obtain ⟨E, hE⟩ : ∃ E, E = putE most L key d t := ⟨_, rfl⟩
          have HER : Hid (putE most R key d t = E) := hide (by rw [hE]; exact hA.out.putE most key d t)
          have KQ1 := put_q_step (k := key) (t := t) HP3.out (.inr ⟨rfl, rfl⟩) HM.out HAK.out.1 HAK.out.2.2
          rw [← hE] at KQ1
          have HE := hide hE
          have KQ1 := hide KQ1
          have KR1 := hide (put_r_step HP3.out HBY.out.1 HM.out HAK.out.1 HAK.out.2.2 HER.out (c := cD))
          clear hE
          have g1 := (cell_of_row W2.drew B 1 _ _ (0, 0) (HP3.out.kept B _ (.inl (.inr ⟨rfl, rfl⟩))).2).trans rfl
          have g2 := (cell_of_row W2.drew B 2 _ _ (0, 0) (HP3.out.kept B _ (.inl (.inr ⟨rfl, rfl⟩))).2).trans rfl
          have g3 := (cell_of_row W2.drew B 3 _ _ (0, 0) (HP3.out.kept B _ (.inl (.inr ⟨rfl, rfl⟩))).2).trans rfl
          go_region_held3 (fun w' => w'.cell? ⟨B, 1, none⟩ = some (.int .i64 key) ∧ w'.cell? ⟨B, 2, none⟩ = some (.slice D m cD) ∧ w'.cell? ⟨B, 3, none⟩ = some (.int .i64 t))
            (first
              | exact ⟨g1, g2, g3⟩
              | exact ⟨gq1, gq2, gq3⟩
              | exact ⟨gr1, gr2, gr3⟩
              | exact ⟨g51, g52, g53⟩
              | fail)
            (first
            | (go_at_call 12
               (with_reducible refine (KQ1.out).mono ?_)
               rintro e wq ⟨rfl, S1, hq1⟩
               have HPq := hide hq1
               have KR2 := hide (put_r_step HPq.out HBY.out.1 HM.out HAK.out.1 HAK.out.2.2 HER.out (c := cD))
               have gq1 := (cell_of_row wq B 1 _ _ (0, 0) (HPq.out.kept B _ (.inl (.inr ⟨rfl, rfl⟩))).2).trans rfl
               have gq2 := (cell_of_row wq B 2 _ _ (0, 0) (HPq.out.kept B _ (.inl (.inr ⟨rfl, rfl⟩))).2).trans rfl
               have gq3 := (cell_of_row wq B 3 _ _ (0, 0) (HPq.out.kept B _ (.inl (.inr ⟨rfl, rfl⟩))).2).trans rfl
               clear hq1)
            | (go_at_call 13
               (with_reducible refine (KR2.out).mono ?_)
               rintro e w5 ⟨rfl, v5, T5, h5⟩
               have HP5 := hide h5
               have KK := hide (kept_step HP5.out (.inr ⟨rfl, rfl⟩) HM.out HBY.out.1 HAK.out.2.2 HBY.out.2)
               have g51 := (cell_of_row w5 B 1 _ _ (0, 0) (HP5.out.kept B _ (.inl (.inr ⟨rfl, rfl⟩))).2).trans rfl
               have g52 := (cell_of_row w5 B 2 _ _ (0, 0) (HP5.out.kept B _ (.inl (.inr ⟨rfl, rfl⟩))).2).trans rfl
               have g53 := (cell_of_row w5 B 3 _ _ (0, 0) (HP5.out.kept B _ (.inl (.inr ⟨rfl, rfl⟩))).2).trans rfl
               clear h5)
            | (go_at_call 13
               (with_reducible refine (KR1.out).mono ?_)
               rintro e wr2 ⟨rfl, v5, T5, hr1⟩
               have HPr := hide hr1
               have KQ2 := put_q_step (k := key) (t := t) HPr.out (.inr ⟨rfl, rfl⟩) HM.out HAK.out.1 HAK.out.2.2
               rw [← HE.out] at KQ2
               have KQ2 := hide KQ2
               have gr1 := (cell_of_row wr2 B 1 _ _ (0, 0) (HPr.out.kept B _ (.inl (.inr ⟨rfl, rfl⟩))).2).trans rfl
               have gr2 := (cell_of_row wr2 B 2 _ _ (0, 0) (HPr.out.kept B _ (.inl (.inr ⟨rfl, rfl⟩))).2).trans rfl
               have gr3 := (cell_of_row wr2 B 3 _ _ (0, 0) (HPr.out.kept B _ (.inl (.inr ⟨rfl, rfl⟩))).2).trans rfl
               clear hr1)
            | (go_at_call 12
               (with_reducible refine (KQ2.out).mono ?_)
               rintro e w5 ⟨rfl, S1, h5⟩
               have HP5 := hide h5
               have KK := hide (kept_step HP5.out (.inr ⟨rfl, rfl⟩) HM.out HBY.out.1 HAK.out.2.2 HBY.out.2)
               have g51 := (cell_of_row w5 B 1 _ _ (0, 0) (HP5.out.kept B _ (.inl (.inr ⟨rfl, rfl⟩))).2).trans rfl
               have g52 := (cell_of_row w5 B 2 _ _ (0, 0) (HP5.out.kept B _ (.inl (.inr ⟨rfl, rfl⟩))).2).trans rfl
               have g53 := (cell_of_row w5 B 3 _ _ (0, 0) (HP5.out.kept B _ (.inl (.inr ⟨rfl, rfl⟩))).2).trans rfl
               clear h5)
            | (go_at_call 14
               (with_reducible refine (KK.out).mono ?_)
               rintro e w6 ⟨rfl, h6⟩
               subst h6)
              | fail)
          all_goals (
            have KS := spoil_step (Kp' := (fun g o => (fun _ _ => False) g o ∨ (g = B ∧ o = .cells #[.int .i64 1, .int .i64 key, .slice D m cD, .int .i64 t] 32 (0, 0)))) HP5.out (.inr ⟨rfl, rfl⟩) HOW.out.1 HM.out HAK.out.2.2 (fun i O h => ⟨.inl h, by rcases h with h | ⟨rfl, _⟩; exact h.elim; exact HOW.out.2⟩)
            have HAX0 := hide (hA.out.putL most key d t HAK.out.1 (by have := HAK.out.2.2; omega))
            clear HP5 KK g51 g52 g53 g1 g2 g3
            go_upto_region 30 with (first
              | (go_at_call 15
                 (with_reducible refine KS.mono ?_)
                 rintro e X ⟨rfl, hX⟩)
              | fail)
            obtain ⟨L9, hL9⟩ : ∃ x, x = putL most L key d t := ⟨_, rfl⟩
            obtain ⟨R9, hR9⟩ : ∃ x, x = putL most R key d t := ⟨_, rfl⟩
            obtain ⟨v9, hv90⟩ : ∃ x, x = v5 := ⟨_, rfl⟩
            obtain ⟨S9, hS9⟩ : ∃ x, x = S1 := ⟨_, rfl⟩
            obtain ⟨T9, hT9⟩ : ∃ x, x = T5 := ⟨_, rfl⟩
            rw [← hL9, ← hR9, ← hv90, ← hS9, ← hT9] at hX
            have HAX : Hid (AlikeQ L9 R9) := hide (by rw [hL9, hR9]; exact HAX0.out)
            have HPX := hide hX
            clear hX hL9 hR9 hv90 hS9 hT9 HAX0 KS
            try clear HPq KR2 KQ1 KR1
            try clear HPr KQ2
            obtain ⟨A9, c9, hv9, -, -⟩ := HPX.out.both.ref.items.slice
            obtain ⟨N, hN⟩ : ∃ N, N = R9.length := ⟨_, rfl⟩
            have hlen9 := HAX.out.len
            rw [← hN] at hv9 hlen9
            obtain ⟨x, hx⟩ : ∃ x, x = leftQ L9 key := ⟨_, rfl⟩
            have hxR : leftQ R9 key = x := by rw [hx]; exact (HAX.out.left key).symm
            have KN : Hid (∀ p : BW X, Calls Try.prog 22 #[.pointer (some ⟨q, 0, none⟩)] p.w fun e w' => e = .returned (.int .i64 (N : Int)) ∧ p.w = w') := hide (fun p => (lenQ_any p.w q mb most L9 S9 (HPX.out.both.que.below p.below (Nat.le_refl _))).mono fun e w' hh => ⟨by rw [hh.1, hlen9], hh.2.symm⟩)
            have KLQ : Hid (∀ p : BW X, Calls Try.prog 20 #[.pointer (some ⟨q, 0, none⟩), .int .i64 key] p.w fun e w' => e = .returned (.int .i64 (x : Int)) ∧ p.w = w') := hide (fun p => (leftQ_any p.w q mb most L9 S9 key (HPX.out.both.que.below p.below (Nat.le_refl _))).mono fun e w' hh => ⟨by rw [hh.1, hx], hh.2.symm⟩)
            have KLR : Hid (∀ p : BW X, Calls Try.prog 21 #[.pointer (some ⟨r, 0, none⟩), .int .i64 key] p.w fun e w' => e = .returned (.int .i64 (x : Int)) ∧ p.w = w') := hide (fun p => (leftR_any p.w r most v9 R9 T9 key (HPX.out.both.ref.below p.below (Nat.le_refl _)) (by have := HPX.out.both.len; omega)).mono fun e w' hh => ⟨by rw [hh.1, hxR], hh.2.symm⟩)
            have y1 := (cell_of_row X B 1 _ _ (0, 0) (HPX.out.kept B _ (.inr ⟨rfl, rfl⟩)).2).trans rfl
            have y2 := (cell_of_row X r 1 _ _ (0, 0) HPX.out.both.ref.row).trans rfl
            rw [hv9] at y2
            have Y1 : ∀ p : BW X, p.w.cell? ⟨B, 1, none⟩ = some (.int .i64 key) := fun p => p.cell y1
            have Y2 : ∀ p : BW X, p.w.cell? ⟨r, 1, none⟩ = some (.slice A9 N c9) := fun p => p.cell y2
            clear hN hlen9 hx hxR y1 y2 hv9
            refine wp_region_below X (Below.refl _ _) (by kernel_rfl) (by kernel_rfl) ?_
            repeat
              first
              | (go_big_quiet_step (first
                | (go_at_call 22; with_reducible exact Calls.bel_same (KN.out _))
                | (go_at_call 20; with_reducible exact Calls.bel_same (KLQ.out _))
                | (go_at_call 21; with_reducible exact Calls.bel_same (KLR.out _))
                | fail))
            refine wpQuiet_nil ?_
            intro _ hw'
            obtain ⟨pq, hw2'⟩ := hw'
            subst hw2'
            have HP9 : Hid (PlI w pq.w q mb r most v9 L9 R9 S9 T9 (fun _ _ => False)) := hide ((HPX.out.mono pq.below).weak (fun _ _ h => h.elim))
            clear Y1 Y2 KN KLQ KLR HPX
            go_wp2
            go_roundw
            case rel => exact ⟨j + 1, v9, L9, R9, S9, T9, by omega, by go_num, HP9, HAX⟩
            case measure => simp [Go.RowKit.intOf]; omega)
        · go_upto_region 18 with (first
            | (go_at_call 11
               (with_reducible refine KL.mono ?_)
               rintro e W2 ⟨rfl, hL2, hb2⟩)
            | fail)
          obtain ⟨o, ho⟩ : ∃ o, o = W1.heap.size := ⟨_, rfl⟩
          have HP2 := HP1.out.add hb2 W1.heap.size _ (Nat.le_refl _) hL2
          rw [← ho] at HP2 ⊢
          have how : w.heap.size ≤ o := by rw [ho]; exact HP1.out.below.size
          have hoB : B ≠ o := by have := HBl.out; omega
          have HP3 := hide (HP2.mono (X' := W2.drew) ⟨rfl, rfl, rfl, Nat.le_refl _, fun _ _ => rfl⟩)
          have HOW := hide (And.intro how hoB)
          clear HP2 how hoB ho hL2 hb2 KL
          obtain ⟨E, hE⟩ : ∃ E, E = putE most L key d t := ⟨_, rfl⟩
          have HER : Hid (putE most R key d t = E) := hide (by rw [hE]; exact hA.out.putE most key d t)
          have KQ1 := put_q_step (k := key) (t := t) HP3.out (.inr ⟨rfl, rfl⟩) HM.out HAK.out.1 HAK.out.2.2
          rw [← hE] at KQ1
          have HE := hide hE
          have KQ1 := hide KQ1
          have KR1 := hide (put_r_step HP3.out HBY.out.1 HM.out HAK.out.1 HAK.out.2.2 HER.out (c := cD))
          clear hE
          have g1 := (cell_of_row W2.drew B 1 _ _ (0, 0) (HP3.out.kept B _ (.inl (.inr ⟨rfl, rfl⟩))).2).trans rfl
          have g2 := (cell_of_row W2.drew B 2 _ _ (0, 0) (HP3.out.kept B _ (.inl (.inr ⟨rfl, rfl⟩))).2).trans rfl
          have g3 := (cell_of_row W2.drew B 3 _ _ (0, 0) (HP3.out.kept B _ (.inl (.inr ⟨rfl, rfl⟩))).2).trans rfl
          go_region_held3 (fun w' => w'.cell? ⟨B, 1, none⟩ = some (.int .i64 key) ∧ w'.cell? ⟨B, 2, none⟩ = some (.slice D m cD) ∧ w'.cell? ⟨B, 3, none⟩ = some (.int .i64 t))
            (first
              | exact ⟨g1, g2, g3⟩
              | exact ⟨gq1, gq2, gq3⟩
              | exact ⟨gr1, gr2, gr3⟩
              | exact ⟨g51, g52, g53⟩
              | fail)
            (first
            | (go_at_call 12
               (with_reducible refine (KQ1.out).mono ?_)
               rintro e wq ⟨rfl, S1, hq1⟩
               have HPq := hide hq1
               have KR2 := hide (put_r_step HPq.out HBY.out.1 HM.out HAK.out.1 HAK.out.2.2 HER.out (c := cD))
               have gq1 := (cell_of_row wq B 1 _ _ (0, 0) (HPq.out.kept B _ (.inl (.inr ⟨rfl, rfl⟩))).2).trans rfl
               have gq2 := (cell_of_row wq B 2 _ _ (0, 0) (HPq.out.kept B _ (.inl (.inr ⟨rfl, rfl⟩))).2).trans rfl
               have gq3 := (cell_of_row wq B 3 _ _ (0, 0) (HPq.out.kept B _ (.inl (.inr ⟨rfl, rfl⟩))).2).trans rfl
               clear hq1)
            | (go_at_call 13
               (with_reducible refine (KR2.out).mono ?_)
               rintro e w5 ⟨rfl, v5, T5, h5⟩
               have HP5 := hide h5
               have KK := hide (kept_step HP5.out (.inr ⟨rfl, rfl⟩) HM.out HBY.out.1 HAK.out.2.2 HBY.out.2)
               have g51 := (cell_of_row w5 B 1 _ _ (0, 0) (HP5.out.kept B _ (.inl (.inr ⟨rfl, rfl⟩))).2).trans rfl
               have g52 := (cell_of_row w5 B 2 _ _ (0, 0) (HP5.out.kept B _ (.inl (.inr ⟨rfl, rfl⟩))).2).trans rfl
               have g53 := (cell_of_row w5 B 3 _ _ (0, 0) (HP5.out.kept B _ (.inl (.inr ⟨rfl, rfl⟩))).2).trans rfl
               clear h5)
            | (go_at_call 13
               (with_reducible refine (KR1.out).mono ?_)
               rintro e wr2 ⟨rfl, v5, T5, hr1⟩
               have HPr := hide hr1
               have KQ2 := put_q_step (k := key) (t := t) HPr.out (.inr ⟨rfl, rfl⟩) HM.out HAK.out.1 HAK.out.2.2
               rw [← HE.out] at KQ2
               have KQ2 := hide KQ2
               have gr1 := (cell_of_row wr2 B 1 _ _ (0, 0) (HPr.out.kept B _ (.inl (.inr ⟨rfl, rfl⟩))).2).trans rfl
               have gr2 := (cell_of_row wr2 B 2 _ _ (0, 0) (HPr.out.kept B _ (.inl (.inr ⟨rfl, rfl⟩))).2).trans rfl
               have gr3 := (cell_of_row wr2 B 3 _ _ (0, 0) (HPr.out.kept B _ (.inl (.inr ⟨rfl, rfl⟩))).2).trans rfl
               clear hr1)
            | (go_at_call 12
               (with_reducible refine (KQ2.out).mono ?_)
               rintro e w5 ⟨rfl, S1, h5⟩
               have HP5 := hide h5
               have KK := hide (kept_step HP5.out (.inr ⟨rfl, rfl⟩) HM.out HBY.out.1 HAK.out.2.2 HBY.out.2)
               have g51 := (cell_of_row w5 B 1 _ _ (0, 0) (HP5.out.kept B _ (.inl (.inr ⟨rfl, rfl⟩))).2).trans rfl
               have g52 := (cell_of_row w5 B 2 _ _ (0, 0) (HP5.out.kept B _ (.inl (.inr ⟨rfl, rfl⟩))).2).trans rfl
               have g53 := (cell_of_row w5 B 3 _ _ (0, 0) (HP5.out.kept B _ (.inl (.inr ⟨rfl, rfl⟩))).2).trans rfl
               clear h5)
            | (go_at_call 14
               (with_reducible refine (KK.out).mono ?_)
               rintro e w6 ⟨rfl, h6⟩
               subst h6)
              | fail)
          all_goals (
            have KS := spoil_step (Kp' := (fun g o => (fun _ _ => False) g o ∨ (g = B ∧ o = .cells #[.int .i64 2, .int .i64 key, .slice D m cD, .int .i64 t] 32 (0, 0)))) HP5.out (.inr ⟨rfl, rfl⟩) HOW.out.1 HM.out HAK.out.2.2 (fun i O h => ⟨.inl h, by rcases h with h | ⟨rfl, _⟩; exact h.elim; exact HOW.out.2⟩)
            have HAX0 := hide (hA.out.putL most key d t HAK.out.1 (by have := HAK.out.2.2; omega))
            clear HP5 KK g51 g52 g53 g1 g2 g3
            go_upto_region 30 with (first
              | (go_at_call 15
                 (with_reducible refine KS.mono ?_)
                 rintro e X ⟨rfl, hX⟩)
              | fail)
            obtain ⟨L9, hL9⟩ : ∃ x, x = putL most L key d t := ⟨_, rfl⟩
            obtain ⟨R9, hR9⟩ : ∃ x, x = putL most R key d t := ⟨_, rfl⟩
            obtain ⟨v9, hv90⟩ : ∃ x, x = v5 := ⟨_, rfl⟩
            obtain ⟨S9, hS9⟩ : ∃ x, x = S1 := ⟨_, rfl⟩
            obtain ⟨T9, hT9⟩ : ∃ x, x = T5 := ⟨_, rfl⟩
            rw [← hL9, ← hR9, ← hv90, ← hS9, ← hT9] at hX
            have HAX : Hid (AlikeQ L9 R9) := hide (by rw [hL9, hR9]; exact HAX0.out)
            have HPX := hide hX
            clear hX hL9 hR9 hv90 hS9 hT9 HAX0 KS
            try clear HPq KR2 KQ1 KR1
            try clear HPr KQ2
            obtain ⟨A9, c9, hv9, -, -⟩ := HPX.out.both.ref.items.slice
            obtain ⟨N, hN⟩ : ∃ N, N = R9.length := ⟨_, rfl⟩
            have hlen9 := HAX.out.len
            rw [← hN] at hv9 hlen9
            obtain ⟨x, hx⟩ : ∃ x, x = leftQ L9 key := ⟨_, rfl⟩
            have hxR : leftQ R9 key = x := by rw [hx]; exact (HAX.out.left key).symm
            have KN : Hid (∀ p : BW X, Calls Try.prog 22 #[.pointer (some ⟨q, 0, none⟩)] p.w fun e w' => e = .returned (.int .i64 (N : Int)) ∧ p.w = w') := hide (fun p => (lenQ_any p.w q mb most L9 S9 (HPX.out.both.que.below p.below (Nat.le_refl _))).mono fun e w' hh => ⟨by rw [hh.1, hlen9], hh.2.symm⟩)
            have KLQ : Hid (∀ p : BW X, Calls Try.prog 20 #[.pointer (some ⟨q, 0, none⟩), .int .i64 key] p.w fun e w' => e = .returned (.int .i64 (x : Int)) ∧ p.w = w') := hide (fun p => (leftQ_any p.w q mb most L9 S9 key (HPX.out.both.que.below p.below (Nat.le_refl _))).mono fun e w' hh => ⟨by rw [hh.1, hx], hh.2.symm⟩)
            have KLR : Hid (∀ p : BW X, Calls Try.prog 21 #[.pointer (some ⟨r, 0, none⟩), .int .i64 key] p.w fun e w' => e = .returned (.int .i64 (x : Int)) ∧ p.w = w') := hide (fun p => (leftR_any p.w r most v9 R9 T9 key (HPX.out.both.ref.below p.below (Nat.le_refl _)) (by have := HPX.out.both.len; omega)).mono fun e w' hh => ⟨by rw [hh.1, hxR], hh.2.symm⟩)
            have y1 := (cell_of_row X B 1 _ _ (0, 0) (HPX.out.kept B _ (.inr ⟨rfl, rfl⟩)).2).trans rfl
            have y2 := (cell_of_row X r 1 _ _ (0, 0) HPX.out.both.ref.row).trans rfl
            rw [hv9] at y2
            have Y1 : ∀ p : BW X, p.w.cell? ⟨B, 1, none⟩ = some (.int .i64 key) := fun p => p.cell y1
            have Y2 : ∀ p : BW X, p.w.cell? ⟨r, 1, none⟩ = some (.slice A9 N c9) := fun p => p.cell y2
            clear hN hlen9 hx hxR y1 y2 hv9
            refine wp_region_below X (Below.refl _ _) (by kernel_rfl) (by kernel_rfl) ?_
            repeat
              first
              | (go_big_quiet_step (first
                | (go_at_call 22; with_reducible exact Calls.bel_same (KN.out _))
                | (go_at_call 20; with_reducible exact Calls.bel_same (KLQ.out _))
                | (go_at_call 21; with_reducible exact Calls.bel_same (KLR.out _))
                | fail))
            refine wpQuiet_nil ?_
            intro _ hw'
            obtain ⟨pq, hw2'⟩ := hw'
            subst hw2'
            have HP9 : Hid (PlI w pq.w q mb r most v9 L9 R9 S9 T9 (fun _ _ => False)) := hide ((HPX.out.mono pq.below).weak (fun _ _ h => h.elim))
            clear Y1 Y2 KN KLQ KLR HPX
            go_wp2
            go_roundw
            case rel => exact ⟨j + 1, v9, L9, R9, S9, T9, by omega, by go_num, HP9, HAX⟩
            case measure => simp [Go.RowKit.intOf]; omega)
      · have hl0 := hA.out.pick t
        obtain ⟨l, hl⟩ : ∃ x, x = (tellQ L t).1 := ⟨_, rfl⟩
        obtain ⟨nl, hnl⟩ : ∃ x, x = l.length := ⟨_, rfl⟩
        obtain ⟨R9, hR9⟩ : ∃ x, x = (pickD (ordD R) t).2 := ⟨_, rfl⟩
        obtain ⟨L9, hL9⟩ : ∃ x, x = (tellQ L t).2 := ⟨_, rfl⟩
        have HAX : Hid (AlikeQ L9 R9) := hide (by rw [hL9, hR9]; exact hl0.2)
        have hlr : l = (pickD (ordD R) t).1 := by rw [hl]; exact hl0.1
        have hlen0 := HP1.out.both.len
        have hnl4 : l.length ≤ 4096 := by
          rw [hl]
          have := (len_pickQ (ordQ L (L.map (·.1))) t L).2
          have h2 := (ordQ_perm L (L.map (·.1))).length_eq
          rw [List.length_map] at h2
          unfold tellQ
          omega
        have hRm : (R9.length : Int) ≤ most := by
          rw [← HAX.out.len, hL9]
          have := (len_pickQ (ordQ L (L.map (·.1))) t L).1
          unfold tellQ
          omega
        obtain ⟨base, hbase⟩ : ∃ x, x = W1.heap.size := ⟨_, rfl⟩
        have HBS : Hid (B < base ∧ w.heap.size ≤ base) := hide ⟨by rw [hbase]; exact HBl.out, by rw [hbase]; exact HP1.out.below.size⟩
        have KP := pick_q_step HP1.out HAK.out.2.1 hl hnl
        rw [← hL9, ← hbase] at KP
        have HLL := hide (And.intro hlr (And.intro hnl (And.intro hR9 (And.intro hRm hnl4))))
        clear hl0 hl hnl hR9 hL9 hlr hlen0 hnl4 hRm hbase
        rcases hk5 with rfl | rfl
        · go_upto_region 24 with (first
            | (go_at_call 16
               (with_reducible refine KP.mono ?_)
               rintro e W3 ⟨A3, c3, rfl, hS3, hX3, hsz3, hP3⟩)
            | fail)
          have HP3 := hide (hP3.mono (X' := W3.drew) ⟨rfl, rfl, rfl, Nat.le_refl _, fun _ _ => rfl⟩)
          have HS3 : Hid (NwsS W3.drew base A3 l) := hide (hS3.below ⟨rfl, rfl, rfl, Nat.le_refl _, fun _ _ => rfl⟩)
          have HX3 := hide hX3
          have HSZ3 : Hid (base ≤ W3.heap.size) := hide (by have := HBl.out; have := hP3.below.size; omega)
          have KT1 := takenT_any W3.drew A3 c3 l base HS3.out HLL.out.2.2.2.2 HSZ3.out
          rw [← HLL.out.2.1] at KT1
          have KT1 := hide KT1
          have KR1 := hide (pick_r_step HP3.out HAK.out.2.1 HLL.out.1 HLL.out.2.1 HLL.out.2.2.1 HLL.out.2.2.2.1)
          have g1 := (cell_of_row W3.drew B 3 _ _ (0, 0) (HP3.out.kept B _ (.inl (.inr ⟨rfl, rfl⟩))).2).trans rfl
          clear hS3 hX3 hP3 KP hsz3
          go_region_held3 (fun w' => w'.cell? ⟨B, 3, none⟩ = some (.int .i64 t))
            (first
              | exact g1
              | exact gt3
              | exact gr3
              | exact g53
              | exact g63
              | fail)
            (first
              | (go_at_call 18
                 (with_reducible refine (KT1.out).mono ?_)
                 rintro e wt ⟨A4, c4, rfl, hS4, hb4⟩
                 have HS4 := hide hS4
                 have HB4 := hide hb4
                 have HPt := hide (HP3.out.addB hb4)
                 have KR2 := hide (pick_r_step HPt.out HAK.out.2.1 HLL.out.1 HLL.out.2.1 HLL.out.2.2.1 HLL.out.2.2.2.1)
                 have gt3 := (cell_of_row wt B 3 _ _ (0, 0) (HPt.out.kept B _ (.inl (.inr ⟨rfl, rfl⟩))).2).trans rfl
                 clear hS4 hb4)
              | (go_at_call 19
                 (with_reducible refine (KR2.out).mono ?_)
                 rintro e w5 ⟨A5, c5, v9, rfl, hS5, hz5, hP5⟩
                 have HP5 := hide (hP5.toK HB4.out)
                 have KS := sameR_any w5 A4 A5 c4 c5 l base 0 (HS4.out.keep hP5.keepK hz5) hS5 HLL.out.2.2.2.2
                 rw [← HLL.out.2.1] at KS
                 have KS := hide KS
                 have g53 := (cell_of_row w5 B 3 _ _ (0, 0) (HP5.out.kept B _ (.inl (.inr ⟨rfl, rfl⟩))).2).trans rfl
                 clear hS5 hz5 hP5)
              | (go_at_call 19
                 (with_reducible refine (KR1.out).mono ?_)
                 rintro e wr2 ⟨A5, c5, v9, rfl, hS5, hz5, hP5⟩
                 have HPr := hide hP5
                 have HS5 := hide hS5
                 have KT2 := takenT_any wr2 A3 c3 l base (HS3.out.keep hP5.keepK hz5) HLL.out.2.2.2.2 (Nat.le_trans HSZ3.out hz5)
                 rw [← HLL.out.2.1] at KT2
                 have KT2 := hide KT2
                 have gr3 := (cell_of_row wr2 B 3 _ _ (0, 0) (HPr.out.kept B _ (.inl (.inr ⟨rfl, rfl⟩))).2).trans rfl
                 clear hS5 hz5 hP5)
              | (go_at_call 18
                 (with_reducible refine (KT2.out).mono ?_)
                 rintro e w5 ⟨A4, c4, rfl, hS4, hb4⟩
                 have HP5 := hide (HPr.out.mono hb4)
                 have KS := sameR_any w5 A4 A5 c4 c5 l base 0 hS4 (HS5.out.below hb4) HLL.out.2.2.2.2
                 rw [← HLL.out.2.1] at KS
                 have KS := hide KS
                 have g53 := (cell_of_row w5 B 3 _ _ (0, 0) (HP5.out.kept B _ (.inl (.inr ⟨rfl, rfl⟩))).2).trans rfl
                 clear hS4 hb4)
              | (go_at_call 17
                 (with_reducible refine (KS.out).mono ?_)
                 rintro e w6 ⟨rfl, hb6⟩
                 have HP6 := hide (HP5.out.mono hb6)
                 have g63 := (cell_of_row w6 B 3 _ _ (0, 0) (HP6.out.kept B _ (.inl (.inr ⟨rfl, rfl⟩))).2).trans rfl
                 clear hb6)
              | fail)
          all_goals (
            have HX6 : Hid (XsP w6 base W3.heap.size A3 nl) := hide (HX3.out.keep (fun i hb hi => HP6.out.keepK i hb hi))
            have HF6 : Hid (∀ g, base ≤ g → g < W3.heap.size → FreeB w6 q mb r v9 S T g) := hide (fun g hb hi => (HP6.out.kept g _ (.inr ⟨hb, Array.getElem?_eq_getElem hi⟩)).1)
            have HP7 := hide (HP6.out.weak (fun g O hg => .inl hg))
            have HS60 : Hid (W3.heap.size ≤ W3.heap.size) := hide (Nat.le_refl _)
            clear HP6 HP5 KS g53 g63 g1 HX3
            try clear KR2 HPt HB4 HS4 gt3
            try clear KT2 HPr HS5 gr3
            clear KT1 KR1
            go_wp2
            go_loopw [12] (fun i wr => ∃ k : Nat, k ≤ nl ∧ i = .int .i64 (k : Int) ∧ Hid (PlI w wr q mb r most v9 L9 R9 S T (fun g o => (fun _ _ => False) g o ∨ (g = B ∧ o = .cells #[.int .i64 3, .int .i64 key, .slice D m cD, .int .i64 t] 32 (0, 0)))) ∧ Hid (∀ g, base ≤ g → g < W3.heap.size → FreeB wr q mb r v9 S T g) ∧ Hid (XsP wr base W3.heap.size A3 nl)) (fun i _ => nl - (Go.RowKit.intOf i).toNat)
            case atStart => exact ⟨0, by omega, rfl, HP7, HF6, HX6⟩
            case round =>
              obtain ⟨k, hk, rfl, hPk, hFk, hXk⟩ := hrel
              by_cases hkn : k < nl
              · have hki : (k : Int) < (nl : Int) := by omega
                have hk0 : (0 : Int) ≤ (k : Int) := by omega
                have hnlb : nl ≤ 4096 := by rw [HLL.out.2.1]; exact HLL.out.2.2.2.2
                obtain ⟨bx, rfl, hbx, -, hcx⟩ := hXk.out (by omega)
                obtain ⟨Dx, nx, cx, d1, hox, hlx⟩ := hcx k hkn
                have KX := spoil_x_step hPk.out hox HBS.out.2 (fun g hb hg => hFk.out g hb (hlx g hg)) (fun i O hi => by
                  rcases hi with hi | ⟨rfl, _⟩
                  · exact hi.elim
                  · exact HBS.out.1)
                have HOX := hide hox
                clear hcx hox hlx
                go_wp2_with (first
                  | (go_at_call 15
                     (with_reducible refine KX.mono ?_)
                     rintro e w8 ⟨rfl, hP8, hg8, ho8⟩
                     have HP8 := hide hP8
                     have HX8 := hide (hXk.out.spoil HOX.out ho8 hg8)
                     have HF8 := hide (fun g (hb : base ≤ g) (hi : g < W3.heap.size) => (⟨Nat.lt_of_lt_of_le (hFk.out g hb hi).1 hg8.size, (hFk.out g hb hi).2⟩ : FreeB w8 q mb r v9 S T g))
                     clear hP8 hg8 ho8)
                  | fail)
                go_roundw
                case rel => exact ⟨k + 1, by omega, by go_num, HP8, HF8, HX8⟩
                case measure => simp [Go.RowKit.intOf]; omega
              · obtain rfl : k = nl := by omega
                obtain ⟨X, hX⟩ : ∃ X, X = wr := ⟨_, rfl⟩
                subst hX
                have HPX := hPk
                obtain ⟨S9, hS9⟩ : ∃ x, x = S := ⟨_, rfl⟩
                obtain ⟨T9, hT9⟩ : ∃ x, x = T := ⟨_, rfl⟩
                rw [← hS9, ← hT9] at HPX
                clear hFk hXk hPk HP7 HF6 HX6 hS9 hT9
                go_upto_region 30 with (fail)
                obtain ⟨A9, c9, hv9, -, -⟩ := HPX.out.both.ref.items.slice
                obtain ⟨N, hN⟩ : ∃ N, N = R9.length := ⟨_, rfl⟩
                have hlen9 := HAX.out.len
                rw [← hN] at hv9 hlen9
                obtain ⟨x, hx⟩ : ∃ x, x = leftQ L9 key := ⟨_, rfl⟩
                have hxR : leftQ R9 key = x := by rw [hx]; exact (HAX.out.left key).symm
                have KN : Hid (∀ p : BW X, Calls Try.prog 22 #[.pointer (some ⟨q, 0, none⟩)] p.w fun e w' => e = .returned (.int .i64 (N : Int)) ∧ p.w = w') := hide (fun p => (lenQ_any p.w q mb most L9 S9 (HPX.out.both.que.below p.below (Nat.le_refl _))).mono fun e w' hh => ⟨by rw [hh.1, hlen9], hh.2.symm⟩)
                have KLQ : Hid (∀ p : BW X, Calls Try.prog 20 #[.pointer (some ⟨q, 0, none⟩), .int .i64 key] p.w fun e w' => e = .returned (.int .i64 (x : Int)) ∧ p.w = w') := hide (fun p => (leftQ_any p.w q mb most L9 S9 key (HPX.out.both.que.below p.below (Nat.le_refl _))).mono fun e w' hh => ⟨by rw [hh.1, hx], hh.2.symm⟩)
                have KLR : Hid (∀ p : BW X, Calls Try.prog 21 #[.pointer (some ⟨r, 0, none⟩), .int .i64 key] p.w fun e w' => e = .returned (.int .i64 (x : Int)) ∧ p.w = w') := hide (fun p => (leftR_any p.w r most v9 R9 T9 key (HPX.out.both.ref.below p.below (Nat.le_refl _)) (by have := HPX.out.both.len; omega)).mono fun e w' hh => ⟨by rw [hh.1, hxR], hh.2.symm⟩)
                have y1 := (cell_of_row X B 1 _ _ (0, 0) (HPX.out.kept B _ (.inr ⟨rfl, rfl⟩)).2).trans rfl
                have y2 := (cell_of_row X r 1 _ _ (0, 0) HPX.out.both.ref.row).trans rfl
                rw [hv9] at y2
                have Y1 : ∀ p : BW X, p.w.cell? ⟨B, 1, none⟩ = some (.int .i64 key) := fun p => p.cell y1
                have Y2 : ∀ p : BW X, p.w.cell? ⟨r, 1, none⟩ = some (.slice A9 N c9) := fun p => p.cell y2
                clear hN hlen9 hx hxR y1 y2 hv9
                refine wp_region_below X (Below.refl _ _) (by kernel_rfl) (by kernel_rfl) ?_
                repeat
                  first
                  | (go_big_quiet_step (first
                    | (go_at_call 22; with_reducible exact Calls.bel_same (KN.out _))
                    | (go_at_call 20; with_reducible exact Calls.bel_same (KLQ.out _))
                    | (go_at_call 21; with_reducible exact Calls.bel_same (KLR.out _))
                    | fail))
                refine wpQuiet_nil ?_
                intro _ hw'
                obtain ⟨pq, hw2'⟩ := hw'
                subst hw2'
                have HP9 : Hid (PlI w pq.w q mb r most v9 L9 R9 S9 T9 (fun _ _ => False)) := hide ((HPX.out.mono pq.below).weak (fun _ _ h => h.elim))
                clear Y1 Y2 KN KLQ KLR HPX
                go_wp2
                go_roundw
                case rel => exact ⟨j + 1, v9, L9, R9, S9, T9, by omega, by go_num, HP9, HAX⟩
                case measure => simp [Go.RowKit.intOf]; omega)
        · go_upto_region 24 with (first
            | (go_at_call 16
               (with_reducible refine KP.mono ?_)
               rintro e W3 ⟨A3, c3, rfl, hS3, hX3, hsz3, hP3⟩)
            | fail)
          have HP3 := hide (hP3.mono (X' := W3.drew) ⟨rfl, rfl, rfl, Nat.le_refl _, fun _ _ => rfl⟩)
          have HS3 : Hid (NwsS W3.drew base A3 l) := hide (hS3.below ⟨rfl, rfl, rfl, Nat.le_refl _, fun _ _ => rfl⟩)
          have HX3 := hide hX3
          have HSZ3 : Hid (base ≤ W3.heap.size) := hide (by have := HBl.out; have := hP3.below.size; omega)
          have KT1 := takenT_any W3.drew A3 c3 l base HS3.out HLL.out.2.2.2.2 HSZ3.out
          rw [← HLL.out.2.1] at KT1
          have KT1 := hide KT1
          have KR1 := hide (pick_r_step HP3.out HAK.out.2.1 HLL.out.1 HLL.out.2.1 HLL.out.2.2.1 HLL.out.2.2.2.1)
          have g1 := (cell_of_row W3.drew B 3 _ _ (0, 0) (HP3.out.kept B _ (.inl (.inr ⟨rfl, rfl⟩))).2).trans rfl
          clear hS3 hX3 hP3 KP hsz3
          go_region_held3 (fun w' => w'.cell? ⟨B, 3, none⟩ = some (.int .i64 t))
            (first
              | exact g1
              | exact gt3
              | exact gr3
              | exact g53
              | exact g63
              | fail)
            (first
              | (go_at_call 18
                 (with_reducible refine (KT1.out).mono ?_)
                 rintro e wt ⟨A4, c4, rfl, hS4, hb4⟩
                 have HS4 := hide hS4
                 have HB4 := hide hb4
                 have HPt := hide (HP3.out.addB hb4)
                 have KR2 := hide (pick_r_step HPt.out HAK.out.2.1 HLL.out.1 HLL.out.2.1 HLL.out.2.2.1 HLL.out.2.2.2.1)
                 have gt3 := (cell_of_row wt B 3 _ _ (0, 0) (HPt.out.kept B _ (.inl (.inr ⟨rfl, rfl⟩))).2).trans rfl
                 clear hS4 hb4)
              | (go_at_call 19
                 (with_reducible refine (KR2.out).mono ?_)
                 rintro e w5 ⟨A5, c5, v9, rfl, hS5, hz5, hP5⟩
                 have HP5 := hide (hP5.toK HB4.out)
                 have KS := sameR_any w5 A4 A5 c4 c5 l base 0 (HS4.out.keep hP5.keepK hz5) hS5 HLL.out.2.2.2.2
                 rw [← HLL.out.2.1] at KS
                 have KS := hide KS
                 have g53 := (cell_of_row w5 B 3 _ _ (0, 0) (HP5.out.kept B _ (.inl (.inr ⟨rfl, rfl⟩))).2).trans rfl
                 clear hS5 hz5 hP5)
              | (go_at_call 19
                 (with_reducible refine (KR1.out).mono ?_)
                 rintro e wr2 ⟨A5, c5, v9, rfl, hS5, hz5, hP5⟩
                 have HPr := hide hP5
                 have HS5 := hide hS5
                 have KT2 := takenT_any wr2 A3 c3 l base (HS3.out.keep hP5.keepK hz5) HLL.out.2.2.2.2 (Nat.le_trans HSZ3.out hz5)
                 rw [← HLL.out.2.1] at KT2
                 have KT2 := hide KT2
                 have gr3 := (cell_of_row wr2 B 3 _ _ (0, 0) (HPr.out.kept B _ (.inl (.inr ⟨rfl, rfl⟩))).2).trans rfl
                 clear hS5 hz5 hP5)
              | (go_at_call 18
                 (with_reducible refine (KT2.out).mono ?_)
                 rintro e w5 ⟨A4, c4, rfl, hS4, hb4⟩
                 have HP5 := hide (HPr.out.mono hb4)
                 have KS := sameR_any w5 A4 A5 c4 c5 l base 0 hS4 (HS5.out.below hb4) HLL.out.2.2.2.2
                 rw [← HLL.out.2.1] at KS
                 have KS := hide KS
                 have g53 := (cell_of_row w5 B 3 _ _ (0, 0) (HP5.out.kept B _ (.inl (.inr ⟨rfl, rfl⟩))).2).trans rfl
                 clear hS4 hb4)
              | (go_at_call 17
                 (with_reducible refine (KS.out).mono ?_)
                 rintro e w6 ⟨rfl, hb6⟩
                 have HP6 := hide (HP5.out.mono hb6)
                 have g63 := (cell_of_row w6 B 3 _ _ (0, 0) (HP6.out.kept B _ (.inl (.inr ⟨rfl, rfl⟩))).2).trans rfl
                 clear hb6)
              | fail)
          all_goals (
            have HX6 : Hid (XsP w6 base W3.heap.size A3 nl) := hide (HX3.out.keep (fun i hb hi => HP6.out.keepK i hb hi))
            have HF6 : Hid (∀ g, base ≤ g → g < W3.heap.size → FreeB w6 q mb r v9 S T g) := hide (fun g hb hi => (HP6.out.kept g _ (.inr ⟨hb, Array.getElem?_eq_getElem hi⟩)).1)
            have HP7 := hide (HP6.out.weak (fun g O hg => .inl hg))
            have HS60 : Hid (W3.heap.size ≤ W3.heap.size) := hide (Nat.le_refl _)
            clear HP6 HP5 KS g53 g63 g1 HX3
            try clear KR2 HPt HB4 HS4 gt3
            try clear KT2 HPr HS5 gr3
            clear KT1 KR1
            go_wp2
            go_loopw [12] (fun i wr => ∃ k : Nat, k ≤ nl ∧ i = .int .i64 (k : Int) ∧ Hid (PlI w wr q mb r most v9 L9 R9 S T (fun g o => (fun _ _ => False) g o ∨ (g = B ∧ o = .cells #[.int .i64 4, .int .i64 key, .slice D m cD, .int .i64 t] 32 (0, 0)))) ∧ Hid (∀ g, base ≤ g → g < W3.heap.size → FreeB wr q mb r v9 S T g) ∧ Hid (XsP wr base W3.heap.size A3 nl)) (fun i _ => nl - (Go.RowKit.intOf i).toNat)
            case atStart => exact ⟨0, by omega, rfl, HP7, HF6, HX6⟩
            case round =>
              obtain ⟨k, hk, rfl, hPk, hFk, hXk⟩ := hrel
              by_cases hkn : k < nl
              · have hki : (k : Int) < (nl : Int) := by omega
                have hk0 : (0 : Int) ≤ (k : Int) := by omega
                have hnlb : nl ≤ 4096 := by rw [HLL.out.2.1]; exact HLL.out.2.2.2.2
                obtain ⟨bx, rfl, hbx, -, hcx⟩ := hXk.out (by omega)
                obtain ⟨Dx, nx, cx, d1, hox, hlx⟩ := hcx k hkn
                have KX := spoil_x_step hPk.out hox HBS.out.2 (fun g hb hg => hFk.out g hb (hlx g hg)) (fun i O hi => by
                  rcases hi with hi | ⟨rfl, _⟩
                  · exact hi.elim
                  · exact HBS.out.1)
                have HOX := hide hox
                clear hcx hox hlx
                go_wp2_with (first
                  | (go_at_call 15
                     (with_reducible refine KX.mono ?_)
                     rintro e w8 ⟨rfl, hP8, hg8, ho8⟩
                     have HP8 := hide hP8
                     have HX8 := hide (hXk.out.spoil HOX.out ho8 hg8)
                     have HF8 := hide (fun g (hb : base ≤ g) (hi : g < W3.heap.size) => (⟨Nat.lt_of_lt_of_le (hFk.out g hb hi).1 hg8.size, (hFk.out g hb hi).2⟩ : FreeB w8 q mb r v9 S T g))
                     clear hP8 hg8 ho8)
                  | fail)
                go_roundw
                case rel => exact ⟨k + 1, by omega, by go_num, HP8, HF8, HX8⟩
                case measure => simp [Go.RowKit.intOf]; omega
              · obtain rfl : k = nl := by omega
                obtain ⟨X, hX⟩ : ∃ X, X = wr := ⟨_, rfl⟩
                subst hX
                have HPX := hPk
                obtain ⟨S9, hS9⟩ : ∃ x, x = S := ⟨_, rfl⟩
                obtain ⟨T9, hT9⟩ : ∃ x, x = T := ⟨_, rfl⟩
                rw [← hS9, ← hT9] at HPX
                clear hFk hXk hPk HP7 HF6 HX6 hS9 hT9
                go_upto_region 30 with (fail)
                obtain ⟨A9, c9, hv9, -, -⟩ := HPX.out.both.ref.items.slice
                obtain ⟨N, hN⟩ : ∃ N, N = R9.length := ⟨_, rfl⟩
                have hlen9 := HAX.out.len
                rw [← hN] at hv9 hlen9
                obtain ⟨x, hx⟩ : ∃ x, x = leftQ L9 key := ⟨_, rfl⟩
                have hxR : leftQ R9 key = x := by rw [hx]; exact (HAX.out.left key).symm
                have KN : Hid (∀ p : BW X, Calls Try.prog 22 #[.pointer (some ⟨q, 0, none⟩)] p.w fun e w' => e = .returned (.int .i64 (N : Int)) ∧ p.w = w') := hide (fun p => (lenQ_any p.w q mb most L9 S9 (HPX.out.both.que.below p.below (Nat.le_refl _))).mono fun e w' hh => ⟨by rw [hh.1, hlen9], hh.2.symm⟩)
                have KLQ : Hid (∀ p : BW X, Calls Try.prog 20 #[.pointer (some ⟨q, 0, none⟩), .int .i64 key] p.w fun e w' => e = .returned (.int .i64 (x : Int)) ∧ p.w = w') := hide (fun p => (leftQ_any p.w q mb most L9 S9 key (HPX.out.both.que.below p.below (Nat.le_refl _))).mono fun e w' hh => ⟨by rw [hh.1, hx], hh.2.symm⟩)
                have KLR : Hid (∀ p : BW X, Calls Try.prog 21 #[.pointer (some ⟨r, 0, none⟩), .int .i64 key] p.w fun e w' => e = .returned (.int .i64 (x : Int)) ∧ p.w = w') := hide (fun p => (leftR_any p.w r most v9 R9 T9 key (HPX.out.both.ref.below p.below (Nat.le_refl _)) (by have := HPX.out.both.len; omega)).mono fun e w' hh => ⟨by rw [hh.1, hxR], hh.2.symm⟩)
                have y1 := (cell_of_row X B 1 _ _ (0, 0) (HPX.out.kept B _ (.inr ⟨rfl, rfl⟩)).2).trans rfl
                have y2 := (cell_of_row X r 1 _ _ (0, 0) HPX.out.both.ref.row).trans rfl
                rw [hv9] at y2
                have Y1 : ∀ p : BW X, p.w.cell? ⟨B, 1, none⟩ = some (.int .i64 key) := fun p => p.cell y1
                have Y2 : ∀ p : BW X, p.w.cell? ⟨r, 1, none⟩ = some (.slice A9 N c9) := fun p => p.cell y2
                clear hN hlen9 hx hxR y1 y2 hv9
                refine wp_region_below X (Below.refl _ _) (by kernel_rfl) (by kernel_rfl) ?_
                repeat
                  first
                  | (go_big_quiet_step (first
                    | (go_at_call 22; with_reducible exact Calls.bel_same (KN.out _))
                    | (go_at_call 20; with_reducible exact Calls.bel_same (KLQ.out _))
                    | (go_at_call 21; with_reducible exact Calls.bel_same (KLR.out _))
                    | fail))
                refine wpQuiet_nil ?_
                intro _ hw'
                obtain ⟨pq, hw2'⟩ := hw'
                subst hw2'
                have HP9 : Hid (PlI w pq.w q mb r most v9 L9 R9 S9 T9 (fun _ _ => False)) := hide ((HPX.out.mono pq.below).weak (fun _ _ h => h.elim))
                clear Y1 Y2 KN KLQ KLR HPX
                go_wp2
                go_roundw
                case rel => exact ⟨j + 1, v9, L9, R9, S9, T9, by omega, by go_num, HP9, HAX⟩
                case measure => simp [Go.RowKit.intOf]; omega)
      · obtain ⟨hn0, hn1, hn2, hn3, hn4⟩ := hk5
        have HAX := hA
        obtain ⟨L9, hL9⟩ : ∃ x, x = L := ⟨_, rfl⟩
        obtain ⟨R9, hR9⟩ : ∃ x, x = R := ⟨_, rfl⟩
        obtain ⟨v9, hv90⟩ : ∃ x, x = v := ⟨_, rfl⟩
        obtain ⟨S9, hS9⟩ : ∃ x, x = S := ⟨_, rfl⟩
        obtain ⟨T9, hT9⟩ : ∃ x, x = T := ⟨_, rfl⟩
        rw [← hL9, ← hR9] at HAX
        rw [← hL9, ← hR9, ← hv90, ← hS9, ← hT9] at HP1
        clear hL9 hR9 hv90 hS9 hT9 hA
        have HPX0 := HP1
        obtain ⟨z, hz⟩ : ∃ x, x = leftQ L9 t := ⟨_, rfl⟩
        have hzR : leftQ R9 t = z := by rw [hz]; exact (HAX.out.left t).symm
        have JQ : Hid (∀ p : BW W1, Calls Try.prog 20 #[.pointer (some ⟨q, 0, none⟩), .int .i64 t] p.w fun e w' => e = .returned (.int .i64 (z : Int)) ∧ p.w = w') := hide (fun p => (leftQ_any p.w q mb most L9 S9 t (HP1.out.both.que.below p.below (Nat.le_refl _))).mono fun e w' hh => ⟨by rw [hh.1, hz], hh.2.symm⟩)
        have JR : Hid (∀ p : BW W1, Calls Try.prog 21 #[.pointer (some ⟨r, 0, none⟩), .int .i64 t] p.w fun e w' => e = .returned (.int .i64 (z : Int)) ∧ p.w = w') := hide (fun p => (leftR_any p.w r most v9 R9 T9 t (HP1.out.both.ref.below p.below (Nat.le_refl _)) (by have := HP1.out.both.len; omega)).mono fun e w' hh => ⟨by rw [hh.1, hzR], hh.2.symm⟩)
        have Z3 : ∀ p : BW W1, p.w.cell? ⟨B, 3, none⟩ = some (.int .i64 t) := fun p => p.cell q3
        clear hz hzR
        go_upto_region 12 with (fail)
        refine wp_region_below W1 (Below.refl _ _) (by kernel_rfl) (by kernel_rfl) ?_
        repeat
          first
          | (go_big_quiet_step (first
            | (go_at_call 20; with_reducible exact Calls.bel_same (JQ.out _))
            | (go_at_call 21; with_reducible exact Calls.bel_same (JR.out _))
            | fail))
        refine wpQuiet_nil ?_
        intro _ hw'
        obtain ⟨pz, hwz⟩ := hw'
        subst hwz
        have HPX := hide (HPX0.out.mono pz.below)
        obtain ⟨X, hX⟩ : ∃ X, X = pz.w := ⟨_, rfl⟩
        rw [← hX] at HPX ⊢
        clear hX JQ JR Z3 pz HPX0
        go_upto_region 30 with (fail)
        obtain ⟨A9, c9, hv9, -, -⟩ := HPX.out.both.ref.items.slice
        obtain ⟨N, hN⟩ : ∃ N, N = R9.length := ⟨_, rfl⟩
        have hlen9 := HAX.out.len
        rw [← hN] at hv9 hlen9
        obtain ⟨x, hx⟩ : ∃ x, x = leftQ L9 key := ⟨_, rfl⟩
        have hxR : leftQ R9 key = x := by rw [hx]; exact (HAX.out.left key).symm
        have KN : Hid (∀ p : BW X, Calls Try.prog 22 #[.pointer (some ⟨q, 0, none⟩)] p.w fun e w' => e = .returned (.int .i64 (N : Int)) ∧ p.w = w') := hide (fun p => (lenQ_any p.w q mb most L9 S9 (HPX.out.both.que.below p.below (Nat.le_refl _))).mono fun e w' hh => ⟨by rw [hh.1, hlen9], hh.2.symm⟩)
        have KLQ : Hid (∀ p : BW X, Calls Try.prog 20 #[.pointer (some ⟨q, 0, none⟩), .int .i64 key] p.w fun e w' => e = .returned (.int .i64 (x : Int)) ∧ p.w = w') := hide (fun p => (leftQ_any p.w q mb most L9 S9 key (HPX.out.both.que.below p.below (Nat.le_refl _))).mono fun e w' hh => ⟨by rw [hh.1, hx], hh.2.symm⟩)
        have KLR : Hid (∀ p : BW X, Calls Try.prog 21 #[.pointer (some ⟨r, 0, none⟩), .int .i64 key] p.w fun e w' => e = .returned (.int .i64 (x : Int)) ∧ p.w = w') := hide (fun p => (leftR_any p.w r most v9 R9 T9 key (HPX.out.both.ref.below p.below (Nat.le_refl _)) (by have := HPX.out.both.len; omega)).mono fun e w' hh => ⟨by rw [hh.1, hxR], hh.2.symm⟩)
        have y1 := (cell_of_row X B 1 _ _ (0, 0) (HPX.out.kept B _ (.inr ⟨rfl, rfl⟩)).2).trans rfl
        have y2 := (cell_of_row X r 1 _ _ (0, 0) HPX.out.both.ref.row).trans rfl
        rw [hv9] at y2
        have Y1 : ∀ p : BW X, p.w.cell? ⟨B, 1, none⟩ = some (.int .i64 key) := fun p => p.cell y1
        have Y2 : ∀ p : BW X, p.w.cell? ⟨r, 1, none⟩ = some (.slice A9 N c9) := fun p => p.cell y2
        clear hN hlen9 hx hxR y1 y2 hv9
        refine wp_region_below X (Below.refl _ _) (by kernel_rfl) (by kernel_rfl) ?_
        repeat
          first
          | (go_big_quiet_step (first
            | (go_at_call 22; with_reducible exact Calls.bel_same (KN.out _))
            | (go_at_call 20; with_reducible exact Calls.bel_same (KLQ.out _))
            | (go_at_call 21; with_reducible exact Calls.bel_same (KLR.out _))
            | fail))
        refine wpQuiet_nil ?_
        intro _ hw'
        obtain ⟨pq, hw2'⟩ := hw'
        subst hw2'
        have HP9 : Hid (PlI w pq.w q mb r most v9 L9 R9 S9 T9 (fun _ _ => False)) := hide ((HPX.out.mono pq.below).weak (fun _ _ h => h.elim))
        clear Y1 Y2 KN KLQ KLR HPX
        go_wp2
        go_roundw
        case rel => exact ⟨j + 1, v9, L9, R9, S9, T9, by omega, by go_num, HP9, HAX⟩
        case measure => simp [Go.RowKit.intOf]; omega
    · have h3 : (j < n1 ∧ ¬ j < 100) ∨ ¬ j < n1 := by omega
      clear hlt
      rcases h3 with ⟨ha, hc⟩ | ha
      all_goals (
        try have hai : (j : Int) < (n1 : Int) := by omega
        try have hai : ¬ (j : Int) < (n1 : Int) := by omega
        try have hci : ¬ (j : Int) < 100 := by omega
        have HB := hide hI.out.below
        clear hI ha
        go_wp2_with fail
        refine (known15_any wr).mono ?_
        rintro e w3 ⟨rfl, hb3⟩
        have HB3 := hide (HB.out.trans (hb3.mono HB.out.size))
        clear hb3
        dsimp only
        go_wp2
        go_ret
        exact ⟨rfl, HB3.out⟩)
end Go.Proofs.Ytajpibopknpmmaa
