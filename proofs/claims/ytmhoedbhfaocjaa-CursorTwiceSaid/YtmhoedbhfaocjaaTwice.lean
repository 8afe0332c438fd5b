/-
  The walk of the statement CursorTwice: true; nothing that was there is written.
-/
import Derived.Test.YtmhoedbhfaocjaaTwicem
namespace Go.Proofs.Ytmhoedbhfaocjaa
open Go.RowKit
set_option maxRecDepth 100000
set_option linter.unusedVariables false
set_option linter.unusedSimpArgs false

/-- 'append(v, x...)' of rows whose elements have two cells each. -/
theorem run_app_two (w : World) (base t e ty : Nat) (i0 : TypeInfo) (z : Value) (bytes : Nat) (ht : Try.prog.underlying t = some (.slice e)) (hi : Try.prog.info? e = some i0) (hz0 : i0.zero = some z) (hz1 : i0.size = 2) (hz2 : i0.bytes = bytes) (hzs : z.cells.size = 2)
    (v : Value) (n : Nat) (xs : List Value) (hown : w.ownsRow base e 2 v n xs) (A : Option Addr) (m c : Nat) (news : List Value) (hl : news.length = m * 2) (hnews : 0 < m → ∃ b off, A = some ⟨b, off, none⟩ ∧ ∀ j u, news[j]? = some u → w.cell? ⟨b, off + j, none⟩ = some u) (hnil : A = none → c = 0) (h1 : ∀ u ∈ news, u.oneCell' = true)
    (h63 : n + m ≤ maxLen) (hbytes : (n + m) * bytes ≤ 140737488355328) (hbase : base ≤ w.heap.size) :
    ∃ v' w', (Builtin.append_ #[t, t] ty #[v, .slice A m c]).run Try.prog w = .ok v' w' ∧ w'.ownsRow base e 2 v' (n + m) (xs ++ news) ∧ w.grownBy w' v.ownBlock ∧ (v'.ownBlock = v.ownBlock ∨ v'.ownBlock = some w.heap.size) := by
  rcases A with _ | ad
  · have hm0 : m = 0 := by
      rcases Nat.eq_zero_or_pos m with h | h
      · exact h
      · obtain ⟨b, off, e, _⟩ := hnews h
        cases e
    subst hm0
    obtain rfl := hnil rfl
    obtain rfl : news = [] := List.eq_nil_of_length_eq_zero (by omega)
    exact ⟨v, w, run_append_owned_none (P := Try.prog) w base t ty e i0 2 ht hi v n xs hown, by simpa using hown, World.grownBy.refl w _, .inl rfl⟩
  · have hn : ∀ j u, news[j]? = some u → w.cell? (ad.add j) = some u := by
      intro j u hj
      have hjl : j < news.length := (List.getElem?_eq_some_iff.1 hj).1
      obtain ⟨b, off, e, hc⟩ := hnews (by omega)
      cases e
      rw [add_none]
      exact hc j u hj
    obtain ⟨v', w', hr, h2, h3, _, h5⟩ := run_append_own_at (P := Try.prog) w base t ty e i0 z 2 bytes ht hi hz0 hz1 hz2 hzs (by omega) v n xs hown ad m c news hl hn h1 h63 hbytes hbase
    exact ⟨v', w', hr, h2, h3, h5⟩
theorem wpList_app_two {w : World} {ops : Array Oper} {rest : List Oper} {o : Oper} {a : Act} {Q : Exit → Act → World → Prop} (hgd : o.guard = none) (s x : Operand) (base t e : Nat) (i0 : TypeInfo) (z : Value) (bytes : Nat)
    (ho : o.op = .call { callee := .builtin .append, args := #[s, x], argTypes := #[t, t] }) (ht : Try.prog.underlying t = some (.slice e)) (hi : Try.prog.info? e = some i0) (hz0 : i0.zero = some z) (hz1 : i0.size = 2) (hz2 : i0.bytes = bytes) (hzs : z.cells.size = 2)
    (v : Value) (n : Nat) (xs : List Value) (A : Option Addr) (m c : Nat) (news : List Value) (hs : a.eval s = v) (hx : a.eval x = .slice A m c) (hown : w.ownsRow base e 2 v n xs) (hl : news.length = m * 2) (hnews : 0 < m → ∃ b off, A = some ⟨b, off, none⟩ ∧ ∀ j u, news[j]? = some u → w.cell? ⟨b, off + j, none⟩ = some u) (hnil : A = none → c = 0) (h1 : ∀ u ∈ news, u.oneCell' = true)
    (h63 : n + m ≤ maxLen) (hbytes : (n + m) * bytes ≤ 140737488355328) (hbase : base ≤ w.heap.size)
    (h : ∀ v' w', w'.ownsRow base e 2 v' (n + m) (xs ++ news) → w.grownBy w' v.ownBlock → (v'.ownBlock = v.ownBlock ∨ v'.ownBlock = some w.heap.size) → wpList Try.prog ops Q rest (a.put o.dst v') w') : wpList Try.prog ops Q (o :: rest) a w := by
  obtain ⟨v', w', hr, h2, h3, h4⟩ := run_app_two w base t e o.type i0 z bytes ht hi hz0 hz1 hz2 hzs v n xs hown A m c news hl hnews hnil h1 h63 hbytes hbase
  refine wpList_plain hgd fun K hK => ?_
  unfold Oper.wp execOp
  simp only [ho, resolve, invoke, builtin, Sem.run_bind, Sem.run_pure, Result.andThen_ok, List.map_toArray, List.map_cons, List.map_nil, hs, hx, hr]
  exact hK _ _ (h v' w' h2 h3 h4)

theorem info_refval : (Try.prog.info? 87).map (fun i => (i.zero, i.size, i.bytes)) = some (some (.agg #[.int .u64 0, .slice none 0 0]), 2, 32) := by kernel_rfl
theorem info_refop : (Try.prog.info? 59).map (fun i => (i.zero, i.size, i.bytes)) = some (some (.agg #[.int .i64 0, .int .i64 0]), 2, 16) := by kernel_rfl

theorem length_itemCells (l : List VItem) : (itemCells l).length = l.length * 2 := by
  induction l with
  | nil => rfl
  | cons a l ih => rw [itemCells, List.flatMap_cons, ← itemCells, List.length_append, ih]; simp; omega
theorem length_opCells (l : List (Int × Int)) : (opCells l).length = l.length * 2 := by
  induction l with
  | nil => rfl
  | cons a l ih => rw [opCells, List.flatMap_cons, ← opCells, List.length_append, ih]; simp; omega
theorem itemCells_one {w : World} {B : Nat} {l : List VItem} (h : RdB w B l) : ∀ u ∈ itemCells l, u.oneCell' = true := fun u hu => by
  obtain ⟨it, hit, hu⟩ := List.mem_flatMap.1 hu
  obtain ⟨A, c, e, _⟩ := h it hit
  simp at hu
  rcases hu with rfl | rfl
  · rfl
  · rw [e]; rfl
theorem opCells_one (l : List (Int × Int)) : ∀ u ∈ opCells l, u.oneCell' = true := fun u hu => by
  obtain ⟨o, _, hu⟩ := List.mem_flatMap.1 hu
  simp at hu
  rcases hu with rfl | rfl <;> rfl
theorem half_index {j n : Nat} (h : j < n * 2) : j / 2 < n ∧ (j = j / 2 * 2 ∨ j = j / 2 * 2 + 1) := by omega
theorem RdV.news {w : World} {B : Nat} {A : Option Addr} {l : List VItem} (h : RdV w B A l) : 0 < l.length → ∃ b off, A = some ⟨b, off, none⟩ ∧ ∀ j u, (itemCells l)[j]? = some u → w.cell? ⟨b, off + j, none⟩ = some u := fun hl => by
  obtain ⟨b, off, e, _, hc⟩ := h hl
  refine ⟨b, off, e, fun j u hj => ?_⟩
  have hjl : j < (itemCells l).length := (List.getElem?_eq_some_iff.1 hj).1
  rw [length_itemCells] at hjl
  obtain ⟨hq, hr⟩ := half_index hjl
  obtain ⟨c1, c2⟩ := hc (j / 2) hq
  obtain ⟨g1, g2⟩ := itemCells_get l (j / 2) hq
  rcases hr with hr | hr
  · rw [hr] at hj ⊢; rw [c1, ← g1, hj]
  · rw [hr] at hj ⊢; rw [← Nat.add_assoc, c2, ← g2, hj]
theorem Ops.news {w : World} {B : Nat} {A : Option Addr} {l : List (Int × Int)} (h : Ops w B A l) : 0 < l.length → ∃ b off, A = some ⟨b, off, none⟩ ∧ ∀ j u, (opCells l)[j]? = some u → w.cell? ⟨b, off + j, none⟩ = some u := fun hl => by
  obtain ⟨b, off, e, _, hc⟩ := h hl
  refine ⟨b, off, e, fun j u hj => ?_⟩
  have hjl : j < (opCells l).length := (List.getElem?_eq_some_iff.1 hj).1
  rw [length_opCells] at hjl
  obtain ⟨hq, hr⟩ := half_index hjl
  obtain ⟨c1, c2⟩ := hc (j / 2) hq
  obtain ⟨g1, g2⟩ := opCells_get l (j / 2) hq
  rcases hr with hr | hr
  · rw [hr] at hj ⊢; rw [c1, ← g1, hj]
  · rw [hr] at hj ⊢; rw [← Nat.add_assoc, c2, ← g2, hj]
theorem itemCells_app (l m : List VItem) : itemCells (l ++ m) = itemCells l ++ itemCells m := by simp [itemCells]
theorem opCells_app (l m : List (Int × Int)) : opCells (l ++ m) = opCells l ++ opCells m := by simp [opCells]

theorem row_ops {w : World} {base : Nat} {e : TypeId} {v : Value} {l : List (Int × Int)} (h : w.ownsRow base e 2 v l.length (opCells l)) : ∃ A c, v = .slice A l.length c ∧ Ops w w.heap.size A l := by
  rcases h.2 with ⟨rfl, h0⟩ | ⟨gg, cap, cur, rfl, hb, hg, hn, hm, hsz, ht⟩
  · obtain rfl : l = [] := List.eq_nil_of_length_eq_zero h0
    exact ⟨none, 0, rfl, fun hp => absurd hp (by simp)⟩
  · refine ⟨some ⟨gg, 0, none⟩, cap, rfl, fun _ => ⟨gg, 0, rfl, (Array.getElem?_eq_some_iff.1 hg).1, fun i hi => ?_⟩⟩
    obtain ⟨h1, h2⟩ := opCells_get l i hi
    have hc : ∀ i, i < l.length * 2 → w.cell? ⟨gg, i, none⟩ = (opCells l)[i]? := fun i hi => World.ownsRow.cellAt (g := gg) (cap := cap) h i hi
    rw [Nat.zero_add]
    exact ⟨(hc _ (by omega)).trans h1, (hc _ (by omega)).trans h2⟩

theorem bytes_joined (a b : List UInt8) : (⟨(a ++ b).toArray⟩ : ByteArray) = ⟨a.toArray⟩ ++ ⟨b.toArray⟩ := by
  apply ByteArray.ext
  simp

set_option maxHeartbeats 8000000 in
theorem cursorTwice_any (Av Al Aw Am : Option Addr) (cv cl cw cm : Nat) (lv : List VItem) (o1 : List (Int × Int)) (lw : List VItem) (o2 : List (Int × Int)) (w : World)
    (hlv : lv.length ≤ 4398046511104) (hrv : RdV w w.heap.size Av lv) (hbv : RdB w w.heap.size lv) (hblv : ∀ it ∈ lv, it.b.length ≤ 140737488351232) (ho1 : Ops w w.heap.size Al o1) (hlo1 : o1.length ≤ 8796093022208)
    (hlw : lw.length ≤ 4398046511104) (hrw : RdV w w.heap.size Aw lw) (hbw : RdB w w.heap.size lw) (hblw : ∀ it ∈ lw, it.b.length ≤ 140737488351232) (ho2 : Ops w w.heap.size Am o2) (hlo2 : o2.length ≤ 8796093022208)
    (hnv : Av = none → cv = 0) (hnl : Al = none → cl = 0) (hnw : Aw = none → cw = 0) (hnm : Am = none → cm = 0) :
    Calls Try.prog 8 #[.slice Av lv.length cv, .slice Al o1.length cl, .slice Aw lw.length cw, .slice Am o2.length cm] w fun e w' => e = .returned (.bool true) ∧ Below w.heap.size w w' := by
  have C1 := hide (vals_any w Av cv lv hlv hrv hbv hblv)
  have HRV := hide hrv
  have HBV := hide hbv
  have HRW := hide hrw
  have HBW := hide hbw
  have HO1 := hide ho1
  have HO2 := hide ho2
  have HBLV := hide hblv
  have HBLW := hide hblw
  have hK := hide (fun W : World => knownC_any W)
  clear hrv hbv hrw hbw ho1 ho2 hblv hblw
  go_enter Try.func8, Try.ntmps8
  go_wp2_with fail
  refine C1.out.mono ?_
  rintro e w1 ⟨v1, it1, rfl, hr1, hc1, hm1, hb1⟩
  obtain ⟨A1, c1, rfl, hrd1⟩ := row_reads hr1
  have HB1 := hide hb1
  have C2 := hide (ops_any w1 Al cl o1 hlo1 (HO1.out.keep hb1.size (fun p hp => hb1.cell hp)))
  have HRD1 := hide hrd1
  have HC1 := hide hc1
  have HM1 := hide hm1
  clear C1 hr1 hrd1 hc1 hm1 hb1
  go_wp2_with fail
  refine C2.out.mono ?_
  rintro e w2 ⟨v2, rfl, how2, hb2⟩
  obtain ⟨A2, c2, rfl, hops2, _⟩ := how2.shape
  obtain ⟨R1, hR1⟩ : ∃ R, R = layR (it1.map fun it => (it.N, it.b)) o1 := ⟨_, rfl⟩
  have C3 := hide (lay_any w2 A1 A2 c1 c2 it1 o1 (HRD1.out.keep hb2.size (fun p hp => hb2.cell hp)) (HC1.out.keep hb2.size (fun p hp => hb2.cell hp)) hops2 R1 hR1)
  have HB2 := hide (HB1.out.trans (hb2.mono HB1.out.size))
  have HR1 := hide hR1
  clear C2 how2 hops2 hb2 hR1
  go_wp2_with fail
  refine C3.out.mono ?_
  rintro e w3 ⟨A3, c3, rfl, hob3, hb3⟩
  obtain ⟨b1, e1⟩ := R1
  obtain ⟨A3', c3', he3, hl3, hby3, _, _⟩ := hob3.shape
  injection he3 with q1 q2 q3
  subst q1; subst q3
  have HB3 := hide (HB2.out.trans (hb3.mono HB2.out.size))
  have HY3 := hide hby3
  have C4 := hide (vals_any w3 Aw cw lw hlw (HRW.out.keep HB3.out.size (fun p hp => HB3.out.cell hp)) (HBW.out.keep HB3.out.size (fun p hp => HB3.out.cell hp)) HBLW.out)
  clear C3 hob3 hb3 hby3 q2
  go_wp2_with fail
  refine C4.out.mono ?_
  rintro e w4 ⟨v4, it2, rfl, hr4, hc4, hm4, hb4⟩
  obtain ⟨A4, c4, rfl, hrd4⟩ := row_reads hr4
  have HB4 := hide (HB3.out.trans (hb4.mono HB3.out.size))
  have HB34 := hide hb4
  have C5 := hide (ops_any w4 Am cm o2 hlo2 (HO2.out.keep HB4.out.size (fun p hp => HB4.out.cell hp)))
  have HRD4 := hide hrd4
  have HC4 := hide hc4
  have HM4 := hide hm4
  clear C4 hr4 hrd4 hc4 hm4 hb4
  go_wp2_with fail
  refine C5.out.mono ?_
  rintro e w5 ⟨v5, rfl, how5, hb5⟩
  obtain ⟨A5, c5, rfl, hops5, _⟩ := how5.shape
  obtain ⟨R2, hR2⟩ : ∃ R, R = layR (it2.map fun it => (it.N, it.b)) o2 := ⟨_, rfl⟩
  have C6 := hide (lay_any w5 A4 A5 c4 c5 it2 o2 (HRD4.out.keep hb5.size (fun p hp => hb5.cell hp)) (HC4.out.keep hb5.size (fun p hp => hb5.cell hp)) hops5 R2 hR2)
  have HB5 := hide (HB4.out.trans (hb5.mono HB4.out.size))
  have HB35 := hide (HB34.out.trans (hb5.mono HB34.out.size))
  have HR2 := hide hR2
  clear C5 how5 hops5 hb5 hR2
  go_wp2_with fail
  refine C6.out.mono ?_
  rintro e w6 ⟨A6, c6, rfl, hob6, hb6⟩
  obtain ⟨b2, e2⟩ := R2
  obtain ⟨A6', c6', he6, hl6, hby6, _, _⟩ := hob6.shape
  injection he6 with q1 q2 q3
  subst q1; subst q3
  have HB6 := hide (HB5.out.trans (hb6.mono HB5.out.size))
  have HB36 := hide (HB35.out.trans (hb6.mono HB35.out.size))
  have HY6 := hide hby6
  clear C6 hob6 hb6 hby6 q2
  have done : ∀ (W' : World), Below w6.heap.size w6 W' → Below w.heap.size w W' := fun W' hb => HB6.out.trans (hb.mono HB6.out.size)
  have HDONE := hide done
  clear done
  dsimp only
  by_cases h1 : e1 = 0
  · subst h1
    by_cases h2 : e2 = 0
    · subst h2
      by_cases h3 : o1.length ≤ 2000
      · by_cases h4 : o2.length ≤ 2000
        · by_cases h5 : b1.length ≤ 30000
          · by_cases h6 : b2.length ≤ 30000
            · obtain ⟨z1, hz1⟩ := layR_zip HR1.out.symm
              obtain ⟨z2, hz2⟩ := layR_zip HR2.out.symm
              have hlv2 : lv.length = o1.length := by
                have e := congrArg List.length HM1.out
                simp at e z1
                omega
              have hlw2 : lw.length = o2.length := by
                have e := congrArg List.length HM4.out
                simp at e z2
                omega
              have HLV : Hid (lv.length ≤ 2000) := hide (by omega)
              have HLW : Hid (lw.length ≤ 2000) := hide (by omega)
              have hlay := layR_twice HR1.out.symm HR2.out.symm (by omega) (Nat.le_trans (Nat.add_le_add h5 h6) (by decide))
              rw [HM1.out, HM4.out, ← List.map_append] at hlay
              have HLAY := hide hlay.symm
              obtain ⟨i0, hi0, hz0, hzz1, hzz2⟩ := info_parts info_refval
              obtain ⟨j0, hj0, hy0, hyy1, hyy2⟩ := info_parts info_refop
              clear z1 hz1 z2 hz2 hlv2 hlw2 hlay
              go_wp2_with (at_builtin; refine wpList_app_two rfl (.tmp 60) (.tmp 61) w6.heap.size 31 87 i0 _ 32 rfl Try.underlying31 hi0 hz0 hzz1 hzz2 rfl (.slice none 0 0) 0 [] Av lv.length cv (itemCells lv) rfl rfl (World.ownsRow_nil _ _ _ _) (length_itemCells lv) ((HRV.out.keep HB6.out.size (fun p hp => HB6.out.cell hp)).news) hnv (itemCells_one HBV.out) (by have := HLV.out; unfold maxLen; omega) (by have := HLV.out; omega) (Nat.le_refl _) ?_)
              intro v7 w7 hown7 hgr7 hat7
              have HB67 : Hid (Below w6.heap.size w6 w7) := hide ((Below.refl _ _).grown hgr7 (Nat.le_refl _) (fun k hk => by simp [Value.ownBlock] at hk))
              have HB7 := hide (HDONE.out _ HB67.out)
              have HO7 := hide hown7
              clear hown7 hgr7 hat7
              go_wp2_with (at_builtin; refine wpList_app_two rfl (.tmp 63) (.tmp 64) w6.heap.size 31 87 i0 _ 32 rfl Try.underlying31 hi0 hz0 hzz1 hzz2 rfl v7 lv.length (itemCells lv) Aw lw.length cw (itemCells lw) rfl rfl HO7.out (length_itemCells lw) ((HRW.out.keep HB7.out.size (fun p hp => HB7.out.cell hp)).news) hnw (itemCells_one HBW.out) (by have := HLV.out; have := HLW.out; unfold maxLen; omega) (by have := HLV.out; have := HLW.out; omega) HB67.out.size ?_)
              intro v8 w8 hown8 hgr8 hat8
              have HB68 : Hid (Below w6.heap.size w6 w8) := hide (HB67.out.grown hgr8 HB67.out.size (fun k hk => (World.ownsRow.lt HO7.out k hk).1))
              have HO8 : Hid (w8.ownsRow w6.heap.size 87 2 v8 (lv ++ lw).length (itemCells (lv ++ lw))) := hide (by rw [List.length_append, itemCells_app]; exact hown8)
              have HB8 := hide (HDONE.out _ HB68.out)
              clear hown8 hgr8 hat8
              go_wp2_with (at_builtin; refine wpList_app_two rfl (.tmp 66) (.tmp 67) w8.heap.size 23 59 j0 _ 16 rfl Try.underlying23 hj0 hy0 hyy1 hyy2 rfl (.slice none 0 0) 0 [] Al o1.length cl (opCells o1) rfl rfl (World.ownsRow_nil _ _ _ _) (length_opCells o1) ((HO1.out.keep HB8.out.size (fun p hp => HB8.out.cell hp)).news) hnl (opCells_one o1) (by unfold maxLen; omega) (by omega) (Nat.le_refl _) ?_)
              intro v9 w9 hown9 hgr9 hat9
              have HB89 : Hid (Below w8.heap.size w8 w9) := hide ((Below.refl _ _).grown hgr9 (Nat.le_refl _) (fun k hk => by simp [Value.ownBlock] at hk))
              have HB9 := hide (HB8.out.trans (HB89.out.mono HB8.out.size))
              have HO9 := hide hown9
              clear hown9 hgr9 hat9
              go_wp2_with (at_builtin; refine wpList_app_two rfl (.tmp 69) (.tmp 70) w8.heap.size 23 59 j0 _ 16 rfl Try.underlying23 hj0 hy0 hyy1 hyy2 rfl v9 o1.length (opCells o1) Am o2.length cm (opCells o2) rfl rfl HO9.out (length_opCells o2) ((HO2.out.keep HB9.out.size (fun p hp => HB9.out.cell hp)).news) hnm (opCells_one o2) (by unfold maxLen; omega) (by omega) HB89.out.size ?_)
              intro v10 w10 hown10 hgr10 hat10
              have HB810 : Hid (Below w8.heap.size w8 w10) := hide (HB89.out.grown hgr10 HB89.out.size (fun k hk => (World.ownsRow.lt HO9.out k hk).1))
              have HO10 : Hid (w10.ownsRow w8.heap.size 59 2 v10 (o1 ++ o2).length (opCells (o1 ++ o2))) := hide (by rw [List.length_append, opCells_app]; exact hown10)
              have HB10 := hide (HB8.out.trans (HB810.out.mono HB8.out.size))
              have HB610 := hide (HB68.out.trans (HB810.out.mono HB68.out.size))
              clear hown10 hgr10 hat10
              obtain ⟨A8, c8, hv8, hrd8⟩ := row_reads HO8.out
              rw [hv8]
              obtain ⟨A10, c10, hv10, hops10⟩ := row_ops HO10.out
              rw [hv10]
              have hbb : RdB w10 w10.heap.size (lv ++ lw) := fun it hit => by
                rcases List.mem_append.1 hit with h | h
                · exact (HBV.out.keep HB10.out.size (fun p hp => HB10.out.cell hp)) it h
                · exact (HBW.out.keep HB10.out.size (fun p hp => HB10.out.cell hp)) it h
              have C11 := hide (vals_any w10 A8 c8 (lv ++ lw) (by have := HLV.out; have := HLW.out; rw [List.length_append]; omega) (hrd8.keep HB810.out.size (fun p hp => HB810.out.cell hp)) hbb (fun it hit => by
                rcases List.mem_append.1 hit with h | h
                · exact HBLV.out it h
                · exact HBLW.out it h))
              rw [List.length_append] at C11
              have HOPS := hide hops10
              clear hrd8 hops10 hbb
              go_wp2_with fail
              refine C11.out.mono ?_
              rintro e w11 ⟨v11, it11, rfl, hr11, hc11, hm11, hb11⟩
              obtain ⟨A11, c11, rfl, hrd11⟩ := row_reads hr11
              have C12 := hide (ops_any w11 A10 c10 (o1 ++ o2) (by rw [List.length_append]; omega) (HOPS.out.keep hb11.size (fun p hp => hb11.cell hp)))
              rw [List.length_append] at C12
              have HB11 := hide (HB610.out.trans (hb11.mono HB610.out.size))
              have HRD11 := hide hrd11
              have HC11 := hide hc11
              have HM11 := hide hm11
              clear C11 hr11 hrd11 hc11 hm11 hb11
              go_wp2_with fail
              refine C12.out.mono ?_
              rintro e w12 ⟨v12, rfl, how12, hb12⟩
              obtain ⟨A12, c12, rfl, hops12, _⟩ := how12.shape
              have C13 := hide (lay_any w12 A11 A12 c11 c12 it11 (o1 ++ o2) (HRD11.out.keep hb12.size (fun p hp => hb12.cell hp)) (HC11.out.keep hb12.size (fun p hp => hb12.cell hp)) hops12 (b1 ++ b2, 0) (by rw [HM11.out]; exact HLAY.out))
              rw [List.length_append] at C13
              have HB12 := hide (HB11.out.trans (hb12.mono HB11.out.size))
              clear C12 how12 hops12 hb12
              go_wp2_with fail
              refine C13.out.mono ?_
              rintro e w13 ⟨A13, c13, rfl, hob13, hb13⟩
              have HB13 := hide (HB12.out.trans (hb13.mono HB12.out.size))
              obtain ⟨A13', c13', he13, hl13, hby13, _, _⟩ := hob13.shape
              injection he13 with q1 q2 q3
              subst q1; subst q3
              have k1 := conv_any A13 c13 (b1 ++ b2) _ w13 hby13
              have k2 := conv_any A3 c3 b1 _ w13 (HY3.out.below (HB36.out.trans (HB13.out.mono HB36.out.size)))
              have k3 := conv_any A6 c6 b2 _ w13 (HY6.out.below HB13.out)
              clear C13 hob13 hb13 hby13 q2
              rw [bytes_joined, List.length_append] at k1
              obtain ⟨s1, hs1⟩ : ∃ s, s = (⟨b1.toArray⟩ : ByteArray) := ⟨_, rfl⟩
              obtain ⟨s2, hs2⟩ : ∃ s, s = (⟨b2.toArray⟩ : ByteArray) := ⟨_, rfl⟩
              rw [← hs1, ← hs2] at k1
              rw [← hs1] at k2
              have k3' : (convert 22 9 (.slice A6 b2.length c6)).run Try.prog w13 = .ok (.string s2) w13 := by rw [hs2]; exact k3
              have hsz1 : s1.size = b1.length := by rw [hs1]; rfl
              have hsz2 : s2.size = b2.length := by rw [hs2]; rfl
              have hsz : (s1.size : Int) + (s2.size : Int) ≤ 9223372036854775807 := by rw [hsz1, hsz2]; have h6' : b2.length ≤ 30000 := h6; omega
              clear k3 hs1 hs2 hsz1 hsz2
              dsimp only
              go_wp2_with fail
              refine (hK.out _).mono ?_
              rintro e w14 ⟨rfl, hb14⟩
              dsimp only
              go_wp2
              go_ret
              exact ⟨rfl, HDONE.out _ (HB13.out.trans (hb14.mono HB13.out.size))⟩
            · have hx : True := trivial
              go_wp2_with fail
              refine (hK.out _).mono ?_
              rintro e w7 ⟨rfl, hb7⟩
              dsimp only
              go_wp2
              go_ret
              exact ⟨rfl, HDONE.out _ hb7⟩
          · have hx : True := trivial
            go_wp2_with fail
            refine (hK.out _).mono ?_
            rintro e w7 ⟨rfl, hb7⟩
            dsimp only
            go_wp2
            go_ret
            exact ⟨rfl, HDONE.out _ hb7⟩
        · have hx : True := trivial
          go_wp2_with fail
          refine (hK.out _).mono ?_
          rintro e w7 ⟨rfl, hb7⟩
          dsimp only
          go_wp2
          go_ret
          exact ⟨rfl, HDONE.out _ hb7⟩
      · have hx : True := trivial
        go_wp2_with fail
        refine (hK.out _).mono ?_
        rintro e w7 ⟨rfl, hb7⟩
        dsimp only
        go_wp2
        go_ret
        exact ⟨rfl, HDONE.out _ hb7⟩
    · have hx : True := trivial
      go_wp2_with fail
      refine (hK.out _).mono ?_
      rintro e w7 ⟨rfl, hb7⟩
      dsimp only
      go_wp2
      go_ret
      exact ⟨rfl, HDONE.out _ hb7⟩
  · have hx : True := trivial
    go_wp2_with fail
    refine (hK.out _).mono ?_
    rintro e w7 ⟨rfl, hb7⟩
    dsimp only
    go_wp2
    go_ret
    exact ⟨rfl, HDONE.out _ hb7⟩
end Go.Proofs.Ytmhoedbhfaocjaa
