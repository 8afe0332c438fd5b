/-
  The walk of the statement WheelLeft.
-/
import Derived.Test.YtjdedlmphghpnaaWif
namespace Go.Proofs.Ytjdedlmphghpnaa
open Go.RowKit
set_option maxRecDepth 100000
set_option linter.unusedVariables false
set_option linter.unusedSimpArgs false
attribute [local go_sem ↓] exec_span exec_put exec_build heap_alloc_new heap_old
attribute [local go_sem] spanQ_ptr spanC_some heap_of_drew heap_of_drewN putAt_ptr putOk_ptr oldOk_some World.setRow_alloc_new rs_Due built_due built_due0 rs_rDue built_rdue

/-- x is among the first k of these. -/
def goneB (ids : List Int) (k : Nat) (x : Int) : Bool := (ids.take k).any (fun y => decide (y = x))
theorem gone_nil (ids : List Int) (x : Int) : goneB ids 0 x = false := rfl
theorem gone_step {ids : List Int} {k : Nat} (h : k < ids.length) (x : Int) : goneB ids (k + 1) x = (goneB ids k x || decide (ids[k] = x)) := by
  unfold goneB
  rw [List.take_add_one, List.getElem?_eq_getElem h, Option.toList_some, List.any_append, List.any_cons, List.any_nil, Bool.or_false]
theorem gone_end {ids : List Int} {k : Nat} (hk : k ≤ 50) (h : ids.length ≤ k ∨ k = 50) (x : Int) : goneB ids k x = goneB ids 50 x := by
  rcases h with h | h
  · unfold goneB
    rw [List.take_of_length_le h, List.take_of_length_le (by omega)]
  · rw [h]
/-- what stays of D when the first k of these are gone. -/
def keepD (ids : List Int) (k : Nat) (D : List (Int × Int)) : List (Int × Int) := D.filter (fun q => !goneB ids k q.1)
theorem keep_nil (ids : List Int) (D : List (Int × Int)) : keepD ids 0 D = D := by
  unfold keepD; rw [List.filter_eq_self]; intro q _; rw [gone_nil]; rfl
theorem keep_step {ids : List Int} {k : Nat} (h : k < ids.length) (D : List (Int × Int)) : dropD ids[k] (keepD ids k D) = keepD ids (k + 1) D := by
  unfold dropD keepD
  rw [List.filter_filter]
  refine List.filter_congr fun q _ => ?_
  rw [gone_step h]
  have hd : decide (q.1 ≠ ids[k]) = !decide (ids[k] = q.1) := by
    rw [Bool.eq_iff_iff]
    simp only [decide_eq_true_eq, Bool.not_eq_true', decide_eq_false_iff_not, ne_eq]
    exact ⟨fun h e => h e.symm, fun h e => h e.symm⟩
  rw [hd]
  cases goneB ids k q.1 <;> cases decide (ids[k] = q.1) <;> rfl
theorem keep_end {ids : List Int} {k : Nat} (hk : k ≤ 50) (h : ids.length ≤ k ∨ k = 50) (D : List (Int × Int)) : keepD ids k D = keepD ids 50 D := by
  unfold keepD
  refine List.filter_congr fun q _ => ?_
  rw [gone_end hk h]
theorem keep_take {ids : List Int} {D : List (Int × Int)} {i : Nat} {q : Int × Int} (h : D[i]? = some q) : keepD ids 50 (D.take (i + 1)) = if goneB ids 50 q.1 = true then keepD ids 50 (D.take i) else keepD ids 50 (D.take i) ++ [q] := by
  unfold keepD
  rw [List.take_add_one, h, Option.toList_some, List.filter_append]
  cases hg : goneB ids 50 q.1
  · simp [hg]
  · simp [hg]
theorem keep_le (ids : List Int) (D : List (Int × Int)) : (keepD ids 50 D).length ≤ D.length := List.length_filter_le _ _
theorem cut_all {now : Int} {D : List (Int × Int)} (h : OkD now D) : D.take (cutN 1099511627776 D) = D := by
  rw [(cut_take _ h.rises).1, List.filter_eq_self]
  intro q hq
  exact decide_eq_true (h.low q hq).2
/-- a row is loaded, in a region whose order is given. -/
theorem wpList_span {P : Program} {w : World} {ops : Array Oper} {rest : List Oper} {o : Oper} {a : Act} {Q : Exit → Act → World → Prop} (hgd : o.guard = none) (t : TypeId) (x : Operand)
    (ho : o.op = .load t x) (v : Value) (hx : a.eval x = v) {cs : Array Value} (hs : spanQ P t w v = some cs) (h : wpList P ops Q rest (a.put o.dst (.agg cs)) w) : wpList P ops Q (o :: rest) a w := by
  refine wpList_plain hgd fun K hK => ?_
  unfold Oper.wp execOp
  have := run_span hs
  simp only [ho, Sem.run_bind, Sem.run_pure, hx, this, Result.andThen_ok]
  exact hK _ _ h
/-- the append of one that stands in a block of its own. -/
theorem app_one_row (w : World) (base : Nat) (l : Value) (L : List (Int × Int)) (g : Nat) (q : Int × Int) (t : TypeId) (hg : w.heap[g]? = some (.cells #[.int .i64 q.1, .int .i64 q.2] t (0, 0))) (hl : w.ownsRow base 43 2 l L.length (rowD L)) (hn : L.length + 1 ≤ 100000) (hb : base ≤ w.heap.size) :
    ∃ v w', (Builtin.append_ #[34, 34] 34 #[l, .slice (some ⟨g, 0, none⟩) 1 1]).run Try.prog w = .ok v w' ∧ w'.ownsRow base 43 2 v (L ++ [q]).length (rowD (L ++ [q])) ∧ w.grownBy w' l.ownBlock := by
  obtain ⟨i0, hi0, hz0, hz1, hz2⟩ := info_parts info_due
  obtain ⟨v, w', h1, h2, h3, -⟩ := run_app_two w base 34 43 34 i0 _ 16 Try.underlying34 hi0 hz0 hz1 hz2 rfl l _ _ hl (some ⟨g, 0, none⟩) 1 1 [.int .i64 q.1, .int .i64 q.2] rfl
    (fun _ => ⟨g, 0, rfl, fun n u hu => by rw [cell_of_row w _ (0 + n) _ _ (0, 0) hg, Nat.zero_add]; simpa using hu⟩) (fun e => by cases e) (fun u hu => by simp at hu; rcases hu with rfl | rfl <;> rfl) (by unfold maxLen; omega) (by omega) hb
  refine ⟨v, w', h1, ?_, h3⟩
  rw [rowD_app, List.length_append]
  exact h2
set_option maxHeartbeats 16000000 in
theorem wheelLeft_any (w : World) (A1 : Option Addr) (c1 : Nat) (l1 : List (Int × Int × Int)) (A2 : Option Addr) (c2 : Nat) (ids : List Int) (h1 : ActsW w w.heap.size A1 l1) (hl1 : l1.length ≤ 4611686018427387904) (h2 : IntS w w.heap.size A2 ids) (hl2 : ids.length ≤ 4611686018427387904) :
    Calls Try.prog 8 #[.slice A1 l1.length c1, .slice A2 ids.length c2] w fun e w' => e = .returned (.bool true) ∧ Below w.heap.size w w' := by
  have KN1 := hide (newW_any w 0)
  have KN2 := hide (fun W => newW_any W 0)
  have HI1 := hide h1
  have HI2 := hide h2
  obtain ⟨n1, hn1⟩ : ∃ n, n = l1.length := ⟨_, rfl⟩
  obtain ⟨n2, hn2⟩ : ∃ n, n = ids.length := ⟨_, rfl⟩
  rw [← hn1] at hl1
  rw [← hn1]
  rw [← hn2] at hl2
  rw [← hn2]
  have HN1 := hide hn1
  have HN2 := hide hn2
  clear h1 hn1 h2 hn2
  go_enter Try.func8, Try.ntmps8
  go_upto_region 2 with (first | (go_at_call 9; (with_reducible refine KN1.out.mono ?_); rintro e w1 ⟨hbl, ⟨-, pv, F, rfl, hp, hw, hF⟩ | ⟨hn, -⟩⟩; rotate_left; exact absurd (by decide) hn; have H1 := hide (And.intro hbl (And.intro hp (And.intro hw hF))); clear hbl hp hw hF; dsimp only) | fail)
  clear KN1
  go_upto_region 3 with (first | (go_at_call 9; (with_reducible refine (KN2.out _).mono ?_); rintro e w2 ⟨hbl, ⟨-, pw, G, rfl, hq, hv, hG⟩ | ⟨hn, -⟩⟩; rotate_left; exact absurd (by decide) hn; have HP := hide (PairW.new H1.out.1 H1.out.2.2.1 H1.out.2.2.2 H1.out.2.1 hbl hv hG hq); clear hbl hq hv hG H1; dsimp only) | fail)
  clear KN2
  have HA0 : Hid (∃ D, PairW w w2 pv pw 0 0 D D []) := hide ⟨_, HP.out⟩
  clear HP
  go_upto_region 6 with (fail)
  go_loopw [9] (fun si wr => ∃ (j : Nat), j ≤ 100 ∧ si = .int .i64 (j : Int) ∧ Hid (∃ D, PairW w wr pv pw 0 0 D D [])) (fun si _ => 100 - (Go.RowKit.intOf si).toNat)
  case atStart => exact ⟨0, by omega, rfl, HA0⟩
  case round =>
    obtain ⟨j, hj, rfl, hI⟩ := hrel
    clear HA0
    have hj0 : (0 : Int) ≤ (j : Int) := by omega
    by_cases hlt : j < n1 ∧ j < 100
    · obtain ⟨hal, hcl⟩ := hlt
      have hjl : j < l1.length := by rw [← HN1.out]; exact hal
      obtain ⟨b1, o1, rfl, hrd⟩ := HI1.out.reads hjl
      obtain ⟨D, hP⟩ := hI.out
      obtain ⟨id, hid⟩ : ∃ x, x = l1[j].2.1 := ⟨_, rfl⟩
      obtain ⟨at_, hat⟩ : ∃ x, x = l1[j].2.2 := ⟨_, rfl⟩
      rw [← hid, ← hat] at hrd
      have HRD := hide hrd
      have R1 : ∀ p : BW wr, p.w.cell? ⟨b1, o1 + j * 3 + 1, none⟩ = some (.int .i64 id) := fun p => (hrd wr hP.below.1 p).1
      have R2 : ∀ p : BW wr, p.w.cell? ⟨b1, o1 + j * 3 + 2, none⟩ = some (.int .i64 at_) := fun p => (hrd wr hP.below.1 p).2
      have HPj := hide hP
      have hai : (j : Int) < (n1 : Int) := by omega
      have hci : (j : Int) < 100 := by omega
      clear hrd hP hI hid hat
      go_upto_region 8 with (fail)
      refine wp_region_quiet_tail wr (Below.refl _ _) 11 (by kernel_rfl) (by kernel_rfl) ?_
      simp only [List.append_eq, List.cons_append, List.nil_append, List.take_succ_cons, List.take_zero, List.drop_succ_cons, List.drop_zero]
      repeat (go_big_quiet_step (fail))
      refine wpQuiet_nil ?_
      intro _ hw'
      obtain ⟨pq, hw2'⟩ := hw'
      subst hw2'
      have KS := hide ((HPj.out.bel pq.below).set id at_)
      obtain ⟨w5, hw5⟩ : ∃ W, W = pq.w := ⟨_, rfl⟩
      rw [← hw5] at KS ⊢
      clear R1 R2 hw5 pq HPj
      go_upto_region 9 with (first | (go_at_call 12; (with_reducible refine KS.out.mono ?_); rintro e w6 ⟨rfl, hp6⟩; have HP6 := hide hp6; clear hp6; dsimp only) | fail)
      clear KS
      have R1 : ∀ p : BW w6, p.w.cell? ⟨b1, o1 + j * 3 + 1, none⟩ = some (.int .i64 id) := fun p => (HRD.out w6 HP6.out.below.1 p).1
      have R2 : ∀ p : BW w6, p.w.cell? ⟨b1, o1 + j * 3 + 2, none⟩ = some (.int .i64 at_) := fun p => (HRD.out w6 HP6.out.below.1 p).2
      refine wp_region_quiet_tail w6 (Below.refl _ _) 11 (by kernel_rfl) (by kernel_rfl) ?_
      simp only [List.append_eq, List.cons_append, List.nil_append, List.take_succ_cons, List.take_zero, List.drop_succ_cons, List.drop_zero]
      repeat (go_big_quiet_step (fail))
      refine wpQuiet_nil ?_
      intro _ hw'
      obtain ⟨pq, hw2'⟩ := hw'
      subst hw2'
      have KS := hide ((HP6.out.bel pq.below).swap.set id at_)
      obtain ⟨w7, hw7⟩ : ∃ W, W = pq.w := ⟨_, rfl⟩
      rw [← hw7] at KS ⊢
      clear R1 R2 hw7 pq HP6
      go_wp2_with (first | (go_at_call 12; (with_reducible refine KS.out.mono ?_); rintro e w8 ⟨rfl, hp8⟩; have HP8 : Hid (∃ D, PairW w w8 pv pw 0 0 D D []) := hide ⟨_, hp8.swap⟩; clear hp8; dsimp only) | fail)
      first
        | exact ⟨⟨j + 1, by omega, by go_num, HP8⟩, by simp [Go.RowKit.intOf]; omega⟩
        | (go_roundw
           case rel => exact ⟨j + 1, by omega, by go_num, HP8⟩
           case measure => simp [Go.RowKit.intOf]; omega)
    · have h3 : (j < n1 ∧ ¬ j < 100) ∨ ¬ j < n1 := by omega
      clear hlt
      rcases h3 with ⟨hai, hci⟩ | hai
      all_goals (
        try have hai : (j : Int) < (n1 : Int) := by omega
        try have hai : ¬ (j : Int) < (n1 : Int) := by omega
        try have hci : ¬ (j : Int) < 100 := by omega
        obtain ⟨D, hP⟩ := hI.out
        have HOK := hide hP.ok
        have HD0 : Hid (PairW w wr pv pw 0 0 (keepD ids 0 D) D []) := hide (by rw [keep_nil]; exact hP)
        clear hP hI
        go_upto_region 11 with (fail)
        clear hai hj hj0
        try clear hci
        go_loopw [10] (fun si wr => ∃ (j : Nat), j ≤ 50 ∧ si = .int .i64 (j : Int) ∧ Hid (PairW w wr pv pw 0 0 (keepD ids j D) D [])) (fun si _ => 50 - (Go.RowKit.intOf si).toNat)
        case atStart => exact ⟨0, by omega, rfl, HD0⟩
        case round =>
          obtain ⟨i, hi, rfl, HPi⟩ := hrel
          clear HD0
          have hi0 : (0 : Int) ≤ (i : Int) := by omega
          by_cases hlt : i < n2 ∧ i < 50
          · obtain ⟨hal, hcl⟩ := hlt
            have hil : i < ids.length := by rw [← HN2.out]; exact hal
            obtain ⟨b2, o2, rfl, hb2, hc2⟩ := HI2.out (by omega)
            obtain ⟨id, hid⟩ : ∃ x, x = ids[i] := ⟨_, rfl⟩
            have k0 := (HPi.out.below.1.cell (p := ⟨b2, _, none⟩) hb2).trans (hc2 i hil)
            rw [← hid] at k0
            have KD := HPi.out.drop id
            rw [show dropD id (keepD ids i D) = keepD ids (i + 1) D by rw [hid]; exact keep_step hil D] at KD
            have KD' := hide KD
            have hai : (i : Int) < (n2 : Int) := by omega
            have hci : (i : Int) < 50 := by omega
            clear KD hid hc2 HPi
            go_wp2_with (first | (go_at_call 14; (with_reducible refine KD'.out.mono ?_); rintro e w8 ⟨rfl, hp8⟩; have HP8 := hide hp8; clear hp8; dsimp only) | fail)
            first
              | exact ⟨⟨i + 1, by omega, by go_num, HP8⟩, by simp [Go.RowKit.intOf]; omega⟩
              | (go_roundw
                 case rel => exact ⟨i + 1, by omega, by go_num, HP8⟩
                 case measure => simp [Go.RowKit.intOf]; omega)
          · have h3 : (i < n2 ∧ ¬ i < 50) ∨ ¬ i < n2 := by omega
            have hend : ids.length ≤ i ∨ i = 50 := by rw [← HN2.out]; omega
            have HPe := HPi
            rw [keep_end hi hend D] at HPe
            clear hlt hend HPi
            rcases h3 with ⟨hai, hci⟩ | hai
            all_goals (
              try have hai : (i : Int) < (n2 : Int) := by omega
              try have hai : ¬ (i : Int) < (n2 : Int) := by omega
              try have hci : ¬ (i : Int) < 50 := by omega
              go_upto_region 14 with (fail)
              clear hai hi hi0
              try clear hci
              have KA := hide (HPe.out.adv (to := 1099511627776) ⟨by decide, by decide⟩)
              go_upto_region 15 with (first | (go_at_call 16; (with_reducible refine KA.out.mono ?_); rintro e w3 ⟨t1, rfl, hp3⟩; have HP3 := hide hp3.swap; clear hp3; dsimp only) | fail)
              have hcut1 := cut_all HPe.out.ok
              rw [hcut1] at HP3
              have KB := hide (HP3.out.adv (to := 1099511627776) ⟨by decide, by decide⟩)
              clear KA HPe hcut1
              go_upto_region 16 with (first | (go_at_call 16; (with_reducible refine KB.out.mono ?_); rintro e w5 ⟨t3, rfl, hp4⟩; have HP5 := hide hp4; clear hp4; dsimp only) | fail)
              clear KB HP3
              have hcut2 := cut_all HOK.out
              rw [hcut2] at HP5
              have hDl := HOK.out.len
              have r1 := HP5.out.row (x := (t1, keepD ids 50 D)) (by simp)
              have r3 := HP5.out.row (x := (t3, D)) (by simp)
              have HBW := hide HP5.out.below
              dsimp only at r1 r3
              obtain ⟨A3, k3, rfl, -, -, -, hrd3⟩ := RowD.of_own r3
              obtain ⟨AK, kk, rfl, -, -, -, hrd1⟩ := RowD.of_own r1
              obtain ⟨n3, hn3⟩ : ∃ n, n = D.length := ⟨_, rfl⟩
              obtain ⟨m1, hm1⟩ : ∃ n, n = (keepD ids 50 D).length := ⟨_, rfl⟩
              have hm1l : m1 ≤ 4096 := by rw [hm1]; exact Nat.le_trans (keep_le _ _) hDl
              rw [← hn3] at hDl ⊢
              rw [← hm1]
              have HN3 := hide hn3
              have HM1 := hide hm1
              have HR1 := hide hrd1
              have HR3 := hide hrd3
              clear hcut2 r1 r3 hrd1 hrd3 hn3 hm1 HP5 HOK
              go_upto_region 20 with (fail)
              go_loopw [15, 16] (fun lv si wr => ∃ i : Nat, i ≤ n3 ∧ si = .int .i64 (i : Int) ∧ Hid (wr.ownsRow w5.heap.size 43 2 lv (keepD ids 50 (D.take i)).length (rowD (keepD ids 50 (D.take i)))) ∧ Hid (Below w5.heap.size w5 wr)) (fun _ si _ => n3 - (Go.RowKit.intOf si).toNat)
              case atStart => exact ⟨0, Nat.zero_le _, rfl, hide (World.ownsRow_nil _ _ _ _), hide (Below.refl _ _)⟩
              case round =>
                obtain ⟨i, hi, rfl, HO, HB⟩ := hrel
                by_cases hlt : i < n3
                · obtain ⟨q, hq⟩ : ∃ q, D[i]? = some q := ⟨_, List.getElem?_eq_getElem (by have := HN3.out; omega)⟩
                  have hcell := HR3.out.cells hq
                  obtain ⟨b3, rfl, hb3, k0, k1⟩ := hcell
                  have HQ := hide hq
                  obtain ⟨x, y⟩ := q
                  dsimp only at k0 k1
                  have hai : (i : Int) < (n3 : Int) := by omega
                  clear hq
                  go_upto_region 24 with (fail)
                  go_loopw [17, 18] (fun sg sk wr2 => ∃ (k : Nat) (gb : Bool), k ≤ 50 ∧ sk = .int .i64 (k : Int) ∧ sg = .bool gb ∧ Hid (gb = goneB ids k x) ∧ Hid (wr2.ownsRow w5.heap.size 43 2 _ (keepD ids 50 (D.take i)).length (rowD (keepD ids 50 (D.take i)))) ∧ Hid (Below w5.heap.size w5 wr2)) (fun _ sk _ => 50 - (Go.RowKit.intOf sk).toNat)
                  case atStart => exact ⟨0, false, by omega, rfl, rfl, hide rfl, HO, HB⟩
                  case round =>
                    obtain ⟨k, gb, hk, rfl, rfl, HG, HO2, HB2⟩ := hrel
                    clear HO HB
                    have hk0 : (0 : Int) ≤ (k : Int) := by omega
                    by_cases hlk : k < n2 ∧ k < 50
                    · obtain ⟨hal, hcl⟩ := hlk
                      have hkl : k < ids.length := by rw [← HN2.out]; exact hal
                      obtain ⟨b2, o2, rfl, hb2, hc2⟩ := HI2.out (by omega)
                      have hgs := gone_step hkl x
                      rw [← HG.out] at hgs
                      obtain ⟨z, hz⟩ : ∃ z, z = ids[k] := ⟨_, rfl⟩
                      have hcz := hc2 k hkl
                      rw [← hz] at hcz hgs
                      have HB02 : Below w.heap.size w wr := HBW.out.1.trans (HB2.out.mono HBW.out.2)
                      have R1 : ∀ p : BW wr, p.w.cell? ⟨b2, o2 + k, none⟩ = some (.int .i64 z) := fun p => p.cell ((HB02.cell (p := ⟨b2, _, none⟩) hb2).trans hcz)
                      have R2 : ∀ p : BW wr, p.w.cell? ⟨b3, i * 2, none⟩ = some (.int .i64 x) := fun p => p.cell ((HB2.out.cell (p := ⟨b3, _, none⟩) hb3).trans k0)
                      have HST : Hid (∀ p : BW wr, ∃ w', p.w = w') := hide fun p => ⟨_, rfl⟩
                      have HGS := hide hgs
                      have hki : (k : Int) < (n2 : Int) := by omega
                      have hkc : (k : Int) < 50 := by omega
                      clear hc2 hcz hz hgs HB02 HST
                      go_upto_region 26 with (fail)
                      have HGT : Hid (gb = true → true = goneB ids (k + 1) x) := hide (fun e => by have h := HGS.out; rw [e, Bool.true_or] at h; exact h.symm)
                      have HGF : Hid (gb = false → (z == x) = goneB ids (k + 1) x) := hide (fun e => by have h := HGS.out; rw [e, Bool.false_or] at h; rw [h]; first | rfl | simp)
                      clear HGS
                      cases gb
                      all_goals (
                        refine wp_region_below wr (Below.refl _ _) (by kernel_rfl) (by kernel_rfl) ?_
                        repeat (go_big_quiet_step (fail))
                        refine wpQuiet_nil ?_
                        intro _ hw'
                        obtain ⟨pq, hw2'⟩ := hw'
                        subst hw2'
                        have HO3 := hide (row_bel HO2.out pq.below)
                        have HB3 := hide (HB2.out.trans (pq.below.mono HB2.out.size))
                        try have HG3 := hide (HGT.out rfl)
                        try have HG3 := hide (HGF.out rfl)
                        clear R1 R2 HGT HGF
                        go_wp2_with fail
                        first
                          | exact ⟨⟨k + 1, _, by omega, by go_num, rfl, HG3, HO3, HB3⟩, by simp [Go.RowKit.intOf]; omega⟩
                          | (go_roundw
                             case rel => exact ⟨k + 1, _, by omega, by go_num, rfl, HG3, HO3, HB3⟩
                             case measure => simp [Go.RowKit.intOf]; omega))
                    · have h3 : (k < n2 ∧ ¬ k < 50) ∨ ¬ k < n2 := by omega
                      have hend : ids.length ≤ k ∨ k = 50 := by rw [← HN2.out]; omega
                      have HGe := HG
                      rw [gone_end hk hend x] at HGe
                      have hkt := keep_take (ids := ids) HQ.out
                      dsimp only at hkt
                      rw [← HGe.out] at hkt
                      clear hlk hend HG HGe
                      rcases h3 with ⟨hki, hkc⟩ | hki
                      all_goals (
                        try have hki : (k : Int) < (n2 : Int) := by omega
                        try have hki : ¬ (k : Int) < (n2 : Int) := by omega
                        try have hkc : ¬ (k : Int) < 50 := by omega
                        cases gb
                        · have HKT := hide hkt
                          have hkl := keep_le ids (D.take i)
                          rw [List.length_take] at hkl
                          have hsp : spanQ Try.prog 43 wr (.pointer (some ⟨b3, i * 2, none⟩)) = some #[.int .i64 x, .int .i64 y] := by
                            obtain ⟨b, X, ty, eA, hbl, hX, hX1, hX2⟩ := (HR3.out.below HB2.out) i (x, y) HQ.out
                            injection eA with eA
                            injection eA with eA
                            rw [spanQ_ptr, eA, hX, rs_Due, spanC_some, if_pos hX1, hX2]
                          obtain ⟨W2, hw2, r2, z2, bb2⟩ := alloc_nm wr (.cells #[.int .i64 x, .int .i64 y] 43)
                          obtain ⟨v4, w4, hap, own4, gr4⟩ := app_one_row W2 w5.heap.size _ _ wr.heap.size (x, y) _ r2 (row_bel HO2.out bb2) (by omega) (Nat.le_trans HB2.out.size bb2.size)
                          have HO4 : Hid (w4.ownsRow w5.heap.size 43 2 v4 (keepD ids 50 (D.take (i + 1))).length (rowD (keepD ids 50 (D.take (i + 1))))) := hide (by rw [hkt, if_neg (by simp)]; exact own4)
                          have HB4 : Hid (Below w5.heap.size w5 w4) := hide ((HB2.out.trans (bb2.mono HB2.out.size)).grown gr4 (Nat.le_trans HB2.out.size bb2.size) (fun g hg => ((row_bel HO2.out bb2).lt g hg).1))
                          have haq : allOne #[.int .i64 x, .int .i64 y] = true := by simp [allOne, Value.oneCell']
                          have hxq : (#[Value.int .i64 x, Value.int .i64 y] : Array Value).extract 0 2 = #[Value.int .i64 x, Value.int .i64 y] := rfl
                          clear hkt HKT hkl own4 gr4 r2 z2 bb2
                          go_wp2_with (first | (refine wpList_span rfl _ _ rfl _ rfl hsp ?_) | (at_builtin; refine wpList_append_eq rfl _ _ 34 34 rfl _ _ rfl rfl hap ?_) | fail)
                          first
                            | exact ⟨⟨i + 1, by omega, by go_num, HO4, HB4⟩, by simp [Go.RowKit.intOf]; omega⟩
                            | (go_roundw
                               case rel => exact ⟨i + 1, by omega, by go_num, HO4, HB4⟩
                               case measure => simp [Go.RowKit.intOf]; omega)
                        · have HO4 := HO2
                          rw [if_pos rfl] at hkt
                          rw [← hkt] at HO4
                          clear hkt
                          go_wp2_with fail
                          first
                            | exact ⟨⟨i + 1, by omega, by go_num, HO4, HB2⟩, by simp [Go.RowKit.intOf]; omega⟩
                            | (go_roundw
                               case rel => exact ⟨i + 1, by omega, by go_num, HO4, HB2⟩
                               case measure => simp [Go.RowKit.intOf]; omega))
                · obtain rfl : n3 = i := by omega
                  have HOe : Hid (wr.ownsRow w5.heap.size 43 2 _ m1 (rowD (keepD ids 50 D))) := hide (by
                    have h := HO.out
                    rw [List.take_of_length_le (by have := HN3.out; omega)] at h
                    rw [HM1.out]; exact h)
                  obtain ⟨A5, k5, rfl, -, -, -, hrd5⟩ := RowD.of_own HOe.out
                  have HR5 := hide hrd5
                  have KT1 := hide (taken18_any wr AK m1 kk (keepD ids 50 D) HM1.out.symm (HR1.out.below HB.out) (by omega))
                  clear HO HOe hrd5
                  go_wp2_with (first
                    | (go_at_call 19; (with_reducible refine KT1.out.mono ?_); rintro e w8 ⟨s1, rfl, hv1, hb8⟩; have HB8 := hide (HB.out.trans (hb8.mono HB.out.size)); have KT3 := hide (taken18_any w8 A5 m1 k5 (keepD ids 50 D) HM1.out.symm (HR5.out.below hb8) (by omega)); have HV1 := hide hv1; clear HB KT1 HR5 hv1 hb8; dsimp only)
                    | (go_at_call 19; (with_reducible refine KT3.out.mono ?_); rintro e w9 ⟨s3, rfl, hv3, hb9⟩; have HB9 := hide (HB8.out.trans (hb9.mono HB8.out.size)); obtain ⟨B1, d1, rfl, -, -, -, hq1⟩ := RowD.of_ref HV1.out; obtain ⟨B3, d3, rfl, -, -, -, hq3⟩ := RowD.of_ref hv3; have KS := hide (same18_any w9 B1 B3 m1 d1 m1 d3 _ _ HM1.out.symm HM1.out.symm (hq1.below hb9) hq3 (by omega)); clear HB8 KT3 HV1 hv3 hb9 hq1 hq3; dsimp only)
                    | (go_at_call 18; (with_reducible refine KS.out.mono ?_); rintro e w10 ⟨rfl, hb10⟩; have HB10 := hide (HB9.out.trans (hb10.mono HB9.out.size)); clear HB9 KS hb10; dsimp only)
                    | (go_at_call 11; (with_reducible refine (known18_any _).mono ?_); rintro e w12 ⟨rfl, hb12⟩; have HB12 := hide (HBW.out.1.trans ((HB10.out.trans (hb12.mono HB10.out.size)).mono HBW.out.2)); clear hb12; dsimp only) | fail)
                  go_ret
                  exact ⟨by first | rfl | simp, HB12.out⟩))
end Go.Proofs.Ytjdedlmphghpnaa
