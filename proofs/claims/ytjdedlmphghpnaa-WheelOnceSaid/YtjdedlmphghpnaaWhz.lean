/-
  The clock goes on: Advance.
-/
import Derived.Test.YtjdedlmphghpnaaWhy
namespace Go.Proofs.Ytjdedlmphghpnaa
open Go.RowKit
set_option maxRecDepth 100000
set_option linter.unusedVariables false
set_option linter.unusedSimpArgs false
attribute [local go_sem ↓] exec_span exec_put exec_build heap_alloc_new heap_old
attribute [local go_sem] spanQ_ptr spanC_some heap_of_drew heap_of_drewN putAt_ptr putOk_ptr oldOk_some World.setRow_alloc_new rs_Due built_due built_due0 ix_pl0 ix_pl1

/-- what Advance hands back, of a time at which it may stand. -/
def AdvP (w : World) (p : Nat) (to : Int) (D : List (Int × Int)) (F : Nat → Prop) (e : Ending) (w' : World) : Prop :=
  ∃ t F', e = .returned (.tuple #[t, .int .i64 0]) ∧ w'.ownsRow w.heap.size 43 2 t (cutN to D) (rowD (D.take (cutN to D))) ∧ WhW w' p to (D.drop (cutN to D)) F' ∧ StW w w' F F' ∧ ∀ k, t.ownBlock = some k → ¬ F' k
/-- where the first loop stands: nothing taken, what was soon, what was late too. -/
def AdvA (w : World) (p : Nat) (now : Int) (mv : Value) (S : List Value) (lv : Value) (T : List (Int × Value)) (D' LL L1 L2 : List (Int × Int)) (k : Nat) (l : Value) (wr : World) : Prop :=
  (k = 0 ∧ l = .slice none 0 0 ∧ Below w.heap.size w wr) ∨
  (k = 1 ∧ ∃ S', wr.ownsRow w.heap.size 43 2 l L1.length (rowD L1) ∧ WhP wr p now mv S' lv T (soonL D' (now + 64)) LL ∧ StW w wr (OwnWh p mv S lv) (OwnWh p mv S' lv) ∧ ∀ g, l.ownBlock = some g → ¬ OwnWh p mv S' lv g) ∨
  (k = 2 ∧ ∃ S' lv', wr.ownsRow w.heap.size 43 2 l (L1.length + L2.length) (rowD (L1 ++ L2)) ∧ WhP wr p now mv S' lv' T (soonL D' (now + 64)) (lateL D' (now + 64)) ∧ StW w wr (OwnWh p mv S lv) (OwnWh p mv S' lv') ∧ ∀ g, l.ownBlock = some g → ¬ OwnWh p mv S' lv' g)
/-- where the second loop stands: so many keys are gone. -/
def AdvB (w : World) (p : Nat) (now : Int) (mv : Value) (S : List Value) (lv : Value) (D D' : List (Int × Int)) (K j : Nat) (l : Value) (wr : World) : Prop :=
  ∃ S' lv' T', wr.ownsRow w.heap.size 43 2 l K (rowD (D.take K)) ∧ (∀ g, l.ownBlock = some g → ¬ OwnWh p mv S' lv' g) ∧ WhP wr p now mv S' lv' T' (soonL D' (now + 64)) (lateL D' (now + 64)) ∧ TimesOk T' (D.drop j) ∧ StW w wr (OwnWh p mv S lv) (OwnWh p mv S' lv')
/-- where the third loop stands: so many of what was late are soon. -/
def AdvC (w : World) (p : Nat) (to : Int) (mv : Value) (S : List Value) (lv : Value) (D D' C : List (Int × Int)) (K n0 j : Nat) (l l2 : Value) (wr : World) : Prop :=
  ∃ S' lv' T', wr.ownsRow w.heap.size 43 2 l K (rowD (D.take K)) ∧ (∀ g, l.ownBlock = some g → ¬ OwnWh p mv S' lv' g) ∧ wr.ownsRow 0 43 2 l2 C.length (rowD C) ∧ (∀ g, l2.ownBlock = some g → ¬ OwnWh p mv S' lv' g) ∧
    WhP wr p to mv S' lv' T' (fun r => rowsD ((nearD D' to).take (n0 + j)) r) (lateL D' (to + 64)) ∧ TimesOk T' D' ∧ StW w wr (OwnWh p mv S lv) (OwnWh p mv S' lv')
/-- an append of a row to a row. -/
theorem own_base {w : World} {base e k n : Nat} {v : Value} {xs : List Value} (h : w.ownsRow base e k v n xs) : w.ownsRow 0 e k v n xs := by
  refine ⟨h.1, ?_⟩
  rcases h.2 with hn | ⟨g, cap, cur, e', hb, rest⟩
  · exact .inl hn
  · exact .inr ⟨g, cap, cur, e', Nat.zero_le _, rest⟩
theorem app_rows (w : World) (base b2 ty : Nat) (l t : Value) (n m : Nat) (xs ys : List Value) (hl : w.ownsRow base 43 2 l n xs) (ht : w.ownsRow b2 43 2 t m ys) (h1 : ∀ u ∈ ys, u.oneCell' = true) (hn : n + m ≤ 1000000) (hb : base ≤ w.heap.size) :
    ∃ v w', (Builtin.append_ #[34, 34] ty #[l, t]).run Try.prog w = .ok v w' ∧ w'.ownsRow base 43 2 v (n + m) (xs ++ ys) ∧ w.grownBy w' l.ownBlock ∧ (v.ownBlock = l.ownBlock ∨ v.ownBlock = some w.heap.size) := by
  obtain ⟨i0, hi0, hz0, hz1, hz2⟩ := info_parts info_due
  obtain ⟨A, c, rfl, hA, hr⟩ := own_read ht
  exact run_app_two w base 34 43 ty i0 _ 16 Try.underlying34 hi0 hz0 hz1 hz2 rfl l n xs hl A m c ys ht.1 hr hA h1 (by unfold maxLen; omega) (by omega) hb
set_option maxHeartbeats 16000000 in
theorem advW_any {w : World} {p : Nat} {now to : Int} {D : List (Int × Int)} {F : Nat → Prop} (h : WhW w p now D F) (hto : now ≤ to ∧ to ≤ 1099511627776) :
    Calls Try.prog 16 #[.pointer (some ⟨p, 0, none⟩), .int .i64 to] w (AdvP w p to D F) := by
  obtain ⟨mv, S, lv, T, h1, h2, h3, rfl⟩ := h
  have hpl : p < w.heap.size := h1.lt p (.inl rfl)
  have hcl := h3.clock
  have c0 := h1.c0
  obtain ⟨K, hK⟩ : ∃ K, K = cutN to D := ⟨_, rfl⟩
  obtain ⟨D', hD'⟩ : ∃ D', D' = D.drop K := ⟨_, rfl⟩
  obtain ⟨LL, hLL⟩ : ∃ LL, LL = lateL D (now + 64) := ⟨_, rfl⟩
  obtain ⟨L1, hL1⟩ : ∃ L1, L1 = turnLw (soonL D (now + 64)) now (tickN now to) := ⟨_, rfl⟩
  obtain ⟨L2, hL2⟩ : ∃ L2, L2 = LL.take (cutN to LL) := ⟨_, rfl⟩
  have hKl : K ≤ D.length := by rw [hK]; exact cutN_le to D
  have hlen := h3.len
  have hall : L1 ++ L2 = D.take K := by rw [hL1, hL2, hLL, hK]; exact advance_all h3.rises (fun q hq => (h3.low q hq).1) hto.1 (tickN_or hto.1)
  have hrest : LL.drop (cutN to LL) = lateL D' (now + 64) := by rw [hLL, hD', hK]; exact late_rest h3.rises
  have hOK' : OkD to D' := by rw [hD', hK]; exact drop_cut_ok h3 hto
  have hL2l : L2.length = cutN to LL := by rw [hL2, List.length_take]; have := cutN_le to LL; omega
  have hallL : L1.length + L2.length = K := by rw [← List.length_append, hall, List.length_take]; omega
  -- the two passes
  have K1 : Hid (∀ wr, Below w.heap.size w wr → wr.cell? ⟨p, 0, none⟩ = some (.int .i64 now) ∧ Calls Try.prog 28 #[plS p, .int .i64 now, .int .i64 to] wr fun e w' => ∃ l, e = .returned l ∧ (∃ S', w'.ownsRow wr.heap.size 43 2 l L1.length (rowD L1) ∧ WhP w' p now mv S' lv T (soonL D' (now + 64)) LL ∧ StW w w' (OwnWh p mv S lv) (OwnWh p mv S' lv) ∧ StW wr w' (OwnWh p mv S lv) (OwnWh p mv S' lv))) := hide fun wr hb => by
    have hw := h1.bel hb
    refine ⟨hw.c0, passS_any (Q := fun e w' => ∃ l, e = .returned l ∧ (∃ S', w'.ownsRow wr.heap.size 43 2 l L1.length (rowD L1) ∧ WhP w' p now mv S' lv T (soonL D' (now + 64)) LL ∧ StW w w' (OwnWh p mv S lv) (OwnWh p mv S' lv) ∧ StW wr w' (OwnWh p mv S lv) (OwnWh p mv S' lv))) ((turnS_any wr p now mv S lv (soonL D (now + 64)) now to (tickN now to) hw.blk hw.sl hw.rows.soon (fun k hk => ?_) h3.clock ⟨by omega, hto.2⟩ (tickN_ok hto.1)).mono ?_) |>.mono ?_⟩
    · have h64 := (tickN_ok hto.1).1
      rw [turn_soon h3.rises (fun q hq => (h3.low q hq).1) rfl (by omega)]
      have := List.length_filter_le (fun q => decide (q.2 ≤ now + (k : Int))) D
      omega
    · rintro e w' ⟨l, rfl, g1, g2, g3⟩
      obtain ⟨g4, g5⟩ := adv_turn hw h3 hto.1 g2 g3
      rw [← hL1] at g1
      rw [← hK, ← hD', ← hLL] at g4
      exact ⟨l, rfl, l, rfl, _, g1, g4, (StW.below hb _).trans g5, g5⟩
    · rintro e w' ⟨l, rfl, l', e2, g⟩
      injection e2 with e2
      subst e2
      exact ⟨l, rfl, g⟩
  have K2 : Hid (∀ wr S', WhP wr p now mv S' lv T (soonL D' (now + 64)) LL → Calls Try.prog 28 #[plL p, .int .i64 now, .int .i64 to] wr fun e w' => ∃ l, e = .returned l ∧ (∃ lv', w'.ownsRow wr.heap.size 43 2 l L2.length (rowD L2) ∧ WhP w' p now mv S' lv' T (soonL D' (now + 64)) (lateL D' (now + 64)) ∧ StW wr w' (OwnWh p mv S' lv) (OwnWh p mv S' lv'))) := hide fun wr S' hw => by
    refine (passL_any (Q := fun e w' => ∃ l, e = .returned l ∧ (∃ lv', w'.ownsRow wr.heap.size 43 2 l L2.length (rowD L2) ∧ WhP w' p now mv S' lv' T (soonL D' (now + 64)) (lateL D' (now + 64)) ∧ StW wr w' (OwnWh p mv S' lv) (OwnWh p mv S' lv'))) ((cutL_any wr p now mv S' lv LL to hw.blk hw.sl hw.rows.late (by rw [hLL]; have := lateL_len (D := D) (lim := now + 64); omega)).mono ?_)).mono ?_
    · rintro e w' ⟨t, v', rfl, g1, g2, g3, g4, g5⟩
      rw [hrest] at g3
      obtain ⟨g6, g7⟩ := hw.setL g2 g3 g4
      rw [← hL2, ← hL2l] at g1
      exact ⟨t, rfl, t, rfl, _, g1, g6, g7⟩
    · rintro e w' ⟨l, rfl, l', e2, g⟩
      injection e2 with e2
      subst e2
      exact ⟨l, rfl, g⟩
  have N1 : Hid (∀ wr w3 t, Below w.heap.size w wr → (∃ S', w3.ownsRow wr.heap.size 43 2 t L1.length (rowD L1) ∧ WhP w3 p now mv S' lv T (soonL D' (now + 64)) LL ∧ StW w w3 (OwnWh p mv S lv) (OwnWh p mv S' lv) ∧ StW wr w3 (OwnWh p mv S lv) (OwnWh p mv S' lv)) →
      ∃ v w4, (Builtin.append_ #[34, 34] 34 #[.slice none 0 0, t]).run Try.prog w3 = .ok v w4 ∧ AdvA w p now mv S lv T D' LL L1 L2 1 v w4) := hide fun wr w3 t hb ⟨S', g1, g2, g3, g4⟩ => by
    obtain ⟨v, w4, a1, a2, a3, a4⟩ := app_rows w3 w.heap.size wr.heap.size 34 (.slice none 0 0) t 0 L1.length [] (rowD L1) (World.ownsRow_nil _ _ _ _) g1 (rowD_one _) (by omega) g3.size
    rw [Nat.zero_add, List.nil_append] at a2
    refine ⟨v, w4, a1, .inr (.inl ⟨rfl, S', a2, g2.grown a3 (fun k hk => by cases hk), g3.grown a3 (fun k hk => by cases hk), fun g hg hog => ?_⟩)⟩
    rcases a4 with e | e
    · rw [e] at hg; cases hg
    · rw [e] at hg; injection hg with hg
      have := g2.lt g hog
      omega
  have N2 : Hid (∀ wr w3 l t S', wr.ownsRow w.heap.size 43 2 l L1.length (rowD L1) → StW w wr (OwnWh p mv S lv) (OwnWh p mv S' lv) → (∀ g, l.ownBlock = some g → ¬ OwnWh p mv S' lv g) → (∃ lv', w3.ownsRow wr.heap.size 43 2 t L2.length (rowD L2) ∧ WhP w3 p now mv S' lv' T (soonL D' (now + 64)) (lateL D' (now + 64)) ∧ StW wr w3 (OwnWh p mv S' lv) (OwnWh p mv S' lv')) →
      ∃ v w4, (Builtin.append_ #[34, 34] 34 #[l, t]).run Try.prog w3 = .ok v w4 ∧ AdvA w p now mv S lv T D' LL L1 L2 2 v w4) := hide fun wr w3 l t S' f1 f2 f3 ⟨lv', g1, g2, g3⟩ => by
    obtain ⟨f4, f5⟩ := g3.row f1 f3
    have hsz : w.heap.size ≤ w3.heap.size := Nat.le_trans f2.size g3.size
    obtain ⟨v, w4, a1, a2, a3, a4⟩ := app_rows w3 w.heap.size wr.heap.size 34 l t L1.length L2.length (rowD L1) (rowD L2) f4 g1 (rowD_one _) (by omega) hsz
    rw [← rowD_app] at a2
    refine ⟨v, w4, a1, .inr (.inr ⟨rfl, S', lv', a2, g2.grown a3 (fun k hk => f5 k hk), (f2.trans g3).grown a3 (fun k hk => (f4.lt k hk).1), fun g hg hog => ?_⟩)⟩
    rcases a4 with e | e
    · exact f5 g (by rw [← e]; exact hg) hog
    · rw [e] at hg; injection hg with hg
      have := g2.lt g hog
      omega
  have KP := hide (fun W (hW : Below w.heap.size w W) => places_any W p (Nat.lt_of_lt_of_le hpl hW.size))
  have NB : Hid (∀ j q l wr W2, AdvB w p now mv S lv D D' K j l wr → j < K → D[j]? = some q → Below wr.heap.size wr W2 → ∃ b o, W2.cell? ⟨p, 1, none⟩ = some (.map (some b)) ∧ (∀ ty, (Builtin.delete_ #[60, 2] ty #[.map (some b), .int .i64 q.1]).run Try.prog W2 = .ok (.tuple #[]) (W2.putObj b o)) ∧ AdvB w p now mv S lv D D' K (j + 1) l (W2.putObj b o)) := hide fun j q l wr W2 ⟨S', lv', T', f1, f2, f3, f4, f5⟩ hj hq hb => by
    have hdr : D.drop j = q :: D.drop (j + 1) := by
      have hjl := (List.getElem?_eq_some_iff.1 hq).1
      rw [List.drop_eq_getElem_cons hjl]
      congr 1
      exact (List.getElem?_eq_some_iff.1 hq).2
    rw [hdr] at f4
    have f3' := f3.bel hb
    have hst := f5.trans (StW.below hb _)
    obtain ⟨f1', f2'⟩ := (StW.below hb (OwnWh p mv S' lv')).row f1 f2
    obtain ⟨b, rfl, hm⟩ := mapv_some f3'.map (fun e => by have := f4.len; rw [e] at this; simp at this)
    obtain ⟨o, hdel, hmd⟩ := hm.del (P := Try.prog) Try.underlying60 Try.underlying2 q.1 2 0
    have hnd : ((q :: D.drop (j + 1)).map Prod.fst).Nodup := by rw [← hdr]; exact (List.Sublist.map _ (List.drop_sublist _ _)).nodup h3.ids
    obtain ⟨f6, f7, f8⟩ := adv_del f3' f4 hnd hmd
    obtain ⟨f9, f10⟩ := f7.row f1' f2'
    exact ⟨b, o, f3'.c1, fun ty => hdel, S', lv', _, f9, f10, f6, f8, hst.trans f7⟩
  obtain ⟨C, hC⟩ : ∃ C, C = (lateL D' (now + 64)).take (cutN (to + 64) (lateL D' (now + 64))) := ⟨_, rfl⟩
  obtain ⟨n0, hn0⟩ : ∃ n, n = (D'.filter (fun q => decide (q.2 ≤ now + 64))).length := ⟨_, rfl⟩
  obtain ⟨hG, hGl⟩ := near_split (to := to) (lim := now + 64) hOK'.rises (by omega)
  rw [← hC] at hG
  have hGs : (nearD D' to).Pairwise ltD := hOK'.rises.filter _
  have hGlow : ∀ y ∈ nearD D' to, to < y.2 ∧ y.2 ≤ to + 64 := fun y hy => by
    unfold nearD at hy
    rw [List.mem_filter] at hy
    exact ⟨(hOK'.low y hy.1).1, by simpa using hy.2⟩
  have hGlen : (nearD D' to).length = n0 + C.length := by rw [hG, List.length_append, hn0]
  have hGl4 : (nearD D' to).length ≤ 4096 := Nat.le_trans (List.length_filter_le _ _) hOK'.len
  have hCl : C.length = cutN (to + 64) (lateL D' (now + 64)) := by rw [hC, List.length_take]; have := cutN_le (to + 64) (lateL D' (now + 64)); omega
  have hCq : ∀ j q, C[j]? = some q → (nearD D' to)[n0 + j]? = some q := fun j q hj => by
    rw [hG, List.getElem?_append_right (by omega), hn0, Nat.add_sub_cancel_left]; exact hj
  have hrow0 : ∀ r, rowsD ((nearD D' to).take (n0 + 0)) r = soonL D' (now + 64) r := fun r => by
    rw [rowsD_soon, hG, Nat.add_zero, hn0, List.take_left' rfl]
  have hrowE : ∀ r, rowsD ((nearD D' to).take (n0 + C.length)) r = soonL D' (to + 64) r := fun r => by
    rw [rowsD_soon, ← hGlen, List.take_length]; rfl
  have NC0 : Hid (∀ l wr, AdvB w p now mv S lv D D' K K l wr → wr.cell? ⟨p, 0, none⟩ = some (.int .i64 now) ∧ wr.frozen? ⟨p, 0, none⟩ = false ∧
      Calls Try.prog 29 #[.pointer (some ⟨p, 66, none⟩), .int .i64 (to + 64)] (wr.setCell ⟨p, 0, none⟩ (.int .i64 to)) fun e w' => ∃ l2, e = .returned l2 ∧ AdvC w p to mv S lv D D' C K n0 0 l l2 w') := hide fun l wr ⟨S', lv', T', f1, f2, f3, f4, f5⟩ => by
    refine ⟨f3.c0, by simp [World.frozen?, f3.blk], ?_⟩
    obtain ⟨f6, f7⟩ := adv_now (to := to) f3
    obtain ⟨f8, f9⟩ := f7.row f1 f2
    refine (cutL_any _ p to mv S' lv' (lateL D' (now + 64)) (to + 64) f6.blk f6.sl f6.rows.late (by have := lateL_len (D := D') (lim := now + 64); have := hOK'.len; omega)).mono ?_
    rintro e w' ⟨t, v', rfl, g1, g2, g3, g4, g5⟩
    rw [hGl] at g3
    obtain ⟨g6, g7⟩ := f6.setL g2 g3 g4
    obtain ⟨f10, f11⟩ := g7.row f8 f9
    rw [← hC, ← hCl] at g1
    refine ⟨t, rfl, S', v', T', f10, f11, own_base g1, fun g hg hog => ?_, g6.rowEq (fun r hr => hrow0 r) rfl, by rw [hD']; exact f4, (f5.trans f7).trans g7⟩
    have h4 := (g1.lt g hg).1
    rcases g7.own g hog with h5 | h5
    · have := f6.lt g h5; omega
    · have h6 := g1.lt g hg
      rcases hog with e | e | ⟨r, u, hr, hu, e⟩ | e
      · subst e; exact absurd (f6.lt g (.inl rfl)) (by omega)
      · exact absurd (f6.lt g (.inr (.inl e))) (by omega)
      · exact absurd (f6.lt g (.inr (.inr (.inl ⟨r, u, hr, hu, e⟩)))) (by omega)
      · rw [g5] at e; exact absurd (f6.lt g (.inr (.inr (.inr e)))) (by omega)
  have NC : Hid (∀ j q l l2 wr W2, AdvC w p to mv S lv D D' C K n0 j l l2 wr → C[j]? = some q → Below wr.heap.size wr W2 → Calls Try.prog 30 #[.pointer (some ⟨p, 2, none⟩), .agg #[.int .i64 q.1, .int .i64 q.2]] W2 fun e w' => e = .returned (.tuple #[]) ∧ AdvC w p to mv S lv D D' C K n0 (j + 1) l l2 w') := hide fun j q l l2 wr W2 ⟨S', lv', T', f1, f2, f3, f4, f5, f6, f7⟩ hq hb => by
    have f5' := f5.bel hb
    have hbst := StW.below hb (OwnWh p mv S' lv')
    obtain ⟨f1', f2'⟩ := hbst.row f1 f2
    obtain ⟨f3', f4'⟩ := hbst.row f3 f4
    have hq2 := hCq j q hq
    have hlow := hGlow q (List.mem_of_getElem? hq2)
    obtain ⟨r, hr64, hr⟩ : ∃ r : Nat, r < 64 ∧ q.2 % 64 = (r : Int) := ⟨(q.2 % 64).toNat, by omega, by omega⟩
    obtain ⟨v, hv, hov⟩ := f5'.rows.soon r hr64
    refine (putS_any W2 p to mv S' lv' v (rowsD ((nearD D' to).take (n0 + j)) r) r q.1 q.2 f5'.blk f5'.sl hr64 hv hov (rowsD_rises (hGs.sublist (List.take_sublist _ _)) (fun y hy => hGlow y (List.mem_of_mem_take hy)) r) (by have := rowsD_len (G := (nearD D' to).take (n0 + j)) r; have : ((nearD D' to).take (n0 + j)).length ≤ (nearD D' to).length := (by rw [List.length_take]; omega); omega) ⟨by have := hOK'.clock; omega, hr⟩).mono ?_
    rintro e w' ⟨v', rfl, g1, g2, g3⟩
    obtain ⟨g4, g5⟩ := f5'.setS hr64 hv g1 g2 g3
    obtain ⟨f10, f11⟩ := g5.row f1' f2'
    obtain ⟨f12, f13⟩ := g5.row f3' f4'
    refine ⟨rfl, _, lv', T', f10, f11, f12, f13, g4.rowEq (fun s hs => ?_) rfl, f6, (f7.trans hbst).trans g5⟩
    rw [show n0 + (j + 1) = n0 + j + 1 by omega, rows_step hGs hGlow hq2]
    by_cases e : s = r
    · subst e; rw [if_pos hr, if_pos rfl]
    · rw [if_neg (by omega), if_neg e]
  have NE : Hid (∀ l l2 wr, AdvC w p to mv S lv D D' C K n0 C.length l l2 wr → AdvP w p to D (OwnWh p mv S lv) (.returned (.tuple #[l, .int .i64 0])) wr) := hide fun l l2 wr ⟨S', lv', T', f1, f2, f3, f4, f5, f6, f7⟩ => by
    refine ⟨l, _, rfl, by rw [← hK]; exact f1, ⟨mv, S', lv', T', f5.rowEq (fun r hr => ?_) ?_, ?_, ?_, rfl⟩, f7, f2⟩
    · rw [hrowE, hD', hK]
    · rw [hD', hK]
    · rw [← hK, ← hD']; exact f6
    · rw [← hK, ← hD']; exact hOK'
  have HC4 := hide (show C.length ≤ 4096 by omega)
  clear hC hn0 hG hGl hGs hGlow hGlen hGl4 hCl hCq hrow0 hrowE
  have HALL := hide hall
  have HALLL := hide hallL
  have HH2 := hide h2
  have HH3 := hide h3
  have HOK := hide hOK'
  have HDD := hide hD'
  have HKK := hide hK
  have HKL := hide hKl
  clear h1 h2 h3 hpl hK hD' hLL hL1 hL2 hKl hall hrest hOK' hL2l hallL
  go_enter Try.func16, Try.ntmps16
  go_wp2_with (first | (go_at_call 27; (with_reducible refine (KP.out _ (Below.refl _ _)).mono ?_); rintro e w2 ⟨rfl, hb2⟩; have HB2 := hide hb2; clear hb2; dsimp only) | fail)
  go_loopw [6, 28] (fun sl si wr => ∃ k : Nat, si = .int .i64 (k : Int) ∧ Hid (AdvA w p now mv S lv T D' LL L1 L2 k sl wr)) (fun _ si _ => 2 - (Go.RowKit.intOf si).toNat)
  case atStart => exact ⟨0, rfl, hide (.inl ⟨rfl, rfl, HB2.out⟩)⟩
  case round =>
    obtain ⟨k, rfl, HA⟩ := hrel
    rcases HA.out with ⟨rfl, rfl, hb⟩ | ⟨rfl, S', g1, g2, g3, g4⟩ | ⟨rfl, S', lv', g1, g2, g3, g4⟩
    · obtain ⟨cc, KS⟩ := K1.out wr hb
      have KS' := hide KS
      have HB := hide hb
      clear HA KS hb
      go_wp2_with (first | (go_at_call 28; (with_reducible refine KS'.out.mono ?_); rintro e w3 ⟨t, rfl, hg⟩; obtain ⟨v, w4, hap, hA⟩ := N1.out wr w3 t HB.out hg; have HA4 := hide hA; clear hA hg; dsimp only) | (at_builtin; refine wpList_append_eq rfl _ _ 34 34 rfl _ _ rfl rfl hap ?_) | fail)
      go_roundw
      case rel => exact ⟨1, by go_num, HA4⟩
      case measure => simp [Go.RowKit.intOf]
    · have cc := g2.c0
      have KS' := hide (K2.out wr S' g2)
      have HG := hide (And.intro g1 (And.intro g3 g4))
      clear HA g1 g2 g3 g4
      go_wp2_with (first | (go_at_call 28; (with_reducible refine KS'.out.mono ?_); rintro e w3 ⟨t, rfl, hg⟩; obtain ⟨v, w4, hap, hA⟩ := N2.out wr w3 _ t S' HG.out.1 HG.out.2.1 HG.out.2.2 hg; have HA4 := hide hA; clear hA hg; dsimp only) | (at_builtin; refine wpList_append_eq rfl _ _ 34 34 rfl _ _ rfl rfl hap ?_) | fail)
      go_roundw
      case rel => exact ⟨2, by go_num, HA4⟩
      case measure => simp [Go.RowKit.intOf]
    · have hsz0 := g3.size
      rw [HALL.out, HALLL.out] at g1
      obtain ⟨A, c, rfl, hAc, hc63, hll, hrd⟩ := RowD.of_own g1
      have hpw : p < wr.heap.size := g2.lt p (.inl rfl)
      have HB0 : Hid (AdvB w p now mv S lv D D' K 0 (.slice A K c) wr) := hide ⟨S', lv', T, g1, g4, g2, by rw [List.drop_zero]; exact HH2.out, g3⟩
      clear HA g1 g2 g3 g4 hrd hsz0 hpw K1 K2 N1 N2 KP
      obtain ⟨wo, hwo⟩ : ∃ wo, wo = wr := ⟨_, rfl⟩
      subst hwo
      go_wp2
      go_loopw [43] (fun sj wr => ∃ j : Nat, j ≤ K ∧ sj = .int .i64 (j : Int) ∧ Hid (AdvB w p now mv S lv D D' K j (.slice A K c) wr)) (fun sj _ => K - (Go.RowKit.intOf sj).toNat)
      case atStart => exact ⟨0, Nat.zero_le _, rfl, HB0⟩
      case round =>
        obtain ⟨j, hj, rfl, HBj⟩ := hrel
        by_cases hjK : j < K
        · obtain ⟨q, hq⟩ : ∃ q, D[j]? = some q := ⟨_, List.getElem?_eq_getElem (by have := HKL.out; omega)⟩
          have hqt : (D.take K)[j]? = some q := by rw [List.getElem?_take, if_pos hjK]; exact hq
          have HQ := hide hq
          obtain ⟨b, X, ty, rfl, hb, hX, hX1, hX2⟩ : ∃ b X t, A = some ⟨b, 0, none⟩ ∧ b < wr.heap.size ∧ wr.heap[b]? = some (.cells X t (0, 0)) ∧ j * 2 + 2 ≤ X.size ∧ X.extract (j * 2) (j * 2 + 2) = #[.int .i64 q.1, .int .i64 q.2] := by
            obtain ⟨S', lv', T', f1, -⟩ := HBj.out
            obtain ⟨A', c', e, -, -, -, h⟩ := RowD.of_own f1
            injection e with e1 e2 e3
            subst e1
            exact h j q hqt
          obtain ⟨W2, hw2, r2, z2, b2⟩ := alloc_nm wr (.cells #[.int .i64 q.1, .int .i64 q.2] 43)
          obtain ⟨mb, o, cc, hdel, hB1⟩ := NB.out j q _ wr W2.drew HBj.out hjK hq ⟨b2.os, b2.tape, b2.output, b2.size, b2.block⟩
          have HB1 := hide hB1
          have cb : W2.cell? ⟨wr.heap.size, 0, none⟩ = some (.int .i64 q.1) := (cell_of_row W2 _ 0 _ _ (0, 0) r2).trans rfl
          have cb' : W2.drew.cell? ⟨wr.heap.size, 0, none⟩ = some (.int .i64 q.1) := cb
          obtain ⟨q1, q2⟩ := q
          dsimp only at *
          have haq : allOne #[.int .i64 q1, .int .i64 q2] = true := by simp [allOne, Value.oneCell']
          clear hq hqt hb r2 z2 b2 hB1 HBj
          go_upto_region 16 with (fail)
          go_region_law (fail)
          all_goals
            go_wp2
            refine ⟨?_, ?measure⟩
            (repeat apply Exists.intro)
            refine ⟨?rel, rfl⟩
            case rel => exact ⟨j + 1, by omega, by go_num, HB1⟩
            case measure => simp [Go.RowKit.intOf]; omega
        · obtain rfl : K = j := by omega
          obtain ⟨cc, cf, KC⟩ := NC0.out _ wr HBj.out
          have KC' := hide KC
          clear HBj KC
          go_wp2_with (first | (go_at_call 29; (with_reducible refine KC'.out.mono ?_); rintro e w3 ⟨l2, rfl, hc⟩; obtain ⟨A2, c2, rfl, hAc2, hc263, -, -⟩ := RowD.of_own (show w3.ownsRow 0 43 2 l2 C.length (rowD C) by obtain ⟨_, _, _, _, _, f3, _⟩ := hc; exact f3); have HC0 := hide hc; clear hc; dsimp only) | fail)
          obtain ⟨m2, hm2⟩ : ∃ m, m = C.length := ⟨_, rfl⟩
          have HM2 := hide hm2
          rw [← hm2] at HC0 hAc2 HC4 ⊢
          clear hm2
          go_loopw [65] (fun sj wr => ∃ j : Nat, j ≤ m2 ∧ sj = .int .i64 (j : Int) ∧ Hid (AdvC w p to mv S lv D D' C K n0 j (.slice A K c) (.slice A2 m2 c2) wr)) (fun sj _ => m2 - (Go.RowKit.intOf sj).toNat)
          case atStart => exact ⟨0, Nat.zero_le _, rfl, HC0⟩
          case round =>
            obtain ⟨i, hi, rfl, HCi⟩ := hrel
            by_cases him : i < m2
            · obtain ⟨q, hq⟩ : ∃ q, C[i]? = some q := ⟨_, List.getElem?_eq_getElem (by have := HM2.out; omega)⟩
              obtain ⟨b, X, ty, rfl, hb, hX, hX1, hX2⟩ : ∃ b X t, A2 = some ⟨b, 0, none⟩ ∧ b < wr.heap.size ∧ wr.heap[b]? = some (.cells X t (0, 0)) ∧ i * 2 + 2 ≤ X.size ∧ X.extract (i * 2) (i * 2 + 2) = #[.int .i64 q.1, .int .i64 q.2] := by
                obtain ⟨S', lv', T', -, -, f1, -⟩ := HCi.out
                obtain ⟨A', c', e, -, -, -, h⟩ := RowD.of_own f1
                injection e with e1 e2 e3
                subst e1
                exact h i q hq
              obtain ⟨W2, hw2, r2, z2, b2⟩ := alloc_nm wr (.cells #[.int .i64 q.1, .int .i64 q.2] 43)
              have KQ := hide (NC.out i q _ _ wr W2.drew HCi.out hq ⟨b2.os, b2.tape, b2.output, b2.size, b2.block⟩)
              obtain ⟨q1, q2⟩ := q
              dsimp only at *
              have haq : allOne #[.int .i64 q1, .int .i64 q2] = true := by simp [allOne, Value.oneCell']
              have hxq : (#[Value.int .i64 q1, Value.int .i64 q2] : Array Value).extract 0 2 = #[Value.int .i64 q1, Value.int .i64 q2] := rfl
              clear hq hb z2 b2 HCi
              go_upto_region 22 with (fail)
              go_region_law (first | (go_simp; go_at_call 30; (with_reducible refine KQ.out.mono ?_); rintro e w5 ⟨rfl, hc⟩; have HC1 := hide hc; clear hc) | fail)
              all_goals
                go_wp2
                refine ⟨?_, ?measure⟩
                (repeat apply Exists.intro)
                refine ⟨?rel, rfl⟩
                case rel => exact ⟨i + 1, by omega, by go_num, HC1⟩
                case measure => simp [Go.RowKit.intOf]; omega
            · obtain rfl : m2 = i := by omega
              have HEnd : Hid (AdvP w p to D (OwnWh p mv S lv) (.returned (.tuple #[.slice A K c, .int .i64 0])) wr) := hide (NE.out _ _ wr (by have := HCi.out; rw [HM2.out] at this; exact this))
              clear HCi
              go_wp2
              go_ret2
              exact HEnd.out
end Go.Proofs.Ytjdedlmphghpnaa
