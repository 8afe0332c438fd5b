/-
  The first packet of a flow.
-/
import Derived.Test.YtbkipfmnbfjkcaaVv
namespace Go.Proofs.Ytbkipfmnbfjkcaa
open Go.RowKit
set_option maxRecDepth 100000
set_option linter.unusedVariables false
set_option linter.unusedSimpArgs false
attribute [local go_sem ↓] exec_span exec_put exec_build heap_alloc_new heap_old
attribute [local go_sem] spanQ_ptr spanC_some heap_of_drew heap_of_drewN putAt_ptr putOk_ptr oldOk_some World.setRow_alloc_new rs_Flow rs_Pin rs_Com rs_Sto rs_Que rs_tup built_pin0 built_com built_pin pinZ_lit tkZ_lit
def okB (b g : Int) : Bool := decide (0 ≤ b ∧ b < 32) && decide (1 ≤ g ∧ g ≤ 1099511627776)
theorem rightTimeS_any (w : World) (n : Int) : Calls Try.prog 50 #[.int .i64 n] w fun e w' => e = .returned (.bool (clockB n)) ∧ w = w' := by
  go_enter Try.func50, Try.ntmps50
  go_wp2
  all_goals go_ret
  all_goals exact ⟨ret_bool (by rw [Bool.eq_iff_iff]; rw [clockB_iff]; simp only [decide_eq_true_eq, Bool.false_eq_true, false_iff]; omega), rfl⟩
theorem rightBackS_any (w : World) (b g : Int) : Calls Try.prog 51 #[.int .i64 b, .int .i64 g] w fun e w' => e = .returned (.bool (okB b g)) ∧ w = w' := by
  go_enter Try.func51, Try.ntmps51
  go_wp2
  all_goals go_ret
  all_goals exact ⟨ret_bool (by rw [Bool.eq_iff_iff]; unfold okB; simp only [Bool.and_eq_true, decide_eq_true_eq, Bool.false_eq_true, false_iff]; omega), rfl⟩
theorem keepT {w w' : World} {bp bu g : Nat} {o : Obj} (ht : Tou w w' bp bu) (n1 : g ≠ bp) (n2 : g ≠ bu) (h : w.heap[g]? = some o) : w'.heap[g]? = some o :=
  (ht.block g (Array.getElem?_eq_some_iff.1 h).1 n1 n2).trans h
theorem StoS.setOther {w : World} {p bp bu : Nat} {most : Int} {l : List PinR} {u : List ((Int × Int) × Int)} (h : StoS w p bp bu most l u) {k : Nat} {cs : Array Value} (hk : k ≠ p ∧ k ≠ bp ∧ k ≠ bu) : StoS (w.setRow k cs) p bp bu most l u :=
  ⟨(setRow_other _ _ _ _ (fun e => hk.1 e.symm)).trans h.blk, h.pins.of_heap (setRow_other _ _ _ _ (fun e => hk.2.1 e.symm)), h.unt.of_heap (setRow_other _ _ _ _ (fun e => hk.2.2 e.symm)), h.ne, h.nd⟩
theorem Tou.setOther {w w' : World} {bp bu k : Nat} (h : Tou w w' bp bu) (hk : w.heap.size ≤ k) (cs : Array Value) : Tou w (w'.setRow k cs) bp bu :=
  ⟨h.os, h.tape, h.output, by rw [setRow_size]; exact h.size, fun j hj h1 h2 => (setRow_other _ _ _ _ (by omega)).trans (h.block j hj h1 h2)⟩
/-- what comes of a first packet: the pin and the error; the pins; until when backends may be used. -/
def beginS (most : Int) (l : List PinR) (u : List ((Int × Int) × Int)) (t : TK) (fl now z b g : Int) : (PinR × Int) × (List PinR × List ((Int × Int) × Int)) :=
  if rightT t.1 = false ∨ clockB z = false ∨ okB b g = false then ((pinZ, 1), (l, u))
  else if (getP t now l).isSome = true then ((pinZ, 5), (l, u))
  else if (beginF t.1.p fl now).2 ≠ 0 then ((pinZ, (beginF t.1.p fl now).2), (l, u))
  else if most ≤ (lenL now l : Int) then ((pinZ, 4), (l, u))
  else ((⟨t, b, g, (beginF t.1.p fl now).1⟩, 0), (putP ⟨t, b, g, (beginF t.1.p fl now).1⟩ (sweepL now l), untP ⟨t, b, g, (beginF t.1.p fl now).1⟩ z u))
def pinEV (r : PinR × Int) : Value := .tuple #[.agg (pinA r.1), .int .i64 r.2]
set_option maxHeartbeats 16000000 in
theorem beginS_any {w : World} {p bp bu : Nat} {most : Int} {l : List PinR} {u : List ((Int × Int) × Int)} (h : StoS w p bp bu most l u) (hlen : l.length ≤ 100000) (t : TK) (fl now z b g : Int) :
    Calls Try.prog 29 #[.pointer (some ⟨p, 0, none⟩), encT t, .int .i64 fl, .int .i64 now, .int .i64 z, .int .i64 b, .int .i64 g] w fun e w' =>
      e = .returned (pinEV (beginS most l u t fl now z b g).1) ∧ StoS w' p bp bu most (beginS most l u t fl now z b g).2.1 (beginS most l u t fl now z b g).2.2 ∧ Tou w w' bp bu := by
  have HS := hide h
  have HLEN := hide hlen
  have HLT := hide h.lt
  have KR := hide (fun W => righttuple_any W (tupA t) t.1 (tupA_tu t))
  have KZ := hide (fun W => rightTimeS_any W z)
  have KO := hide (fun W => rightBackS_any W b g)
  have KB := hide (fun W => beginF_any W t.1.p fl now)
  have KG := hide (fun W l u (hs : StoS W p bp bu most l u) => living_any hs t now)
  have KN := hide (fun W (hs : StoS W p bp bu most l u) => lenS_any hs hlen now)
  have KW := hide (fun W (hs : StoS W p bp bu most l u) => sweep_any hs hlen now)
  have HE : Hid (beginS most l u t fl now z b g = if rightT t.1 = false ∨ clockB z = false ∨ okB b g = false then ((pinZ, 1), (l, u))
    else if (getP t now l).isSome = true then ((pinZ, 5), (l, u))
    else if (beginF t.1.p fl now).2 ≠ 0 then ((pinZ, (beginF t.1.p fl now).2), (l, u))
    else if most ≤ (lenL now l : Int) then ((pinZ, 4), (l, u))
    else ((⟨t, b, g, (beginF t.1.p fl now).1⟩, 0), (putP ⟨t, b, g, (beginF t.1.p fl now).1⟩ (sweepL now l), untP ⟨t, b, g, (beginF t.1.p fl now).1⟩ z u))) := hide rfl
  obtain ⟨E, hE⟩ : ∃ x, x = beginS most l u t fl now z b g := ⟨_, rfl⟩
  obtain ⟨rt, h1⟩ : ∃ x, x = rightT t.1 := ⟨_, rfl⟩
  obtain ⟨cz, h2⟩ : ∃ x, x = clockB z := ⟨_, rfl⟩
  obtain ⟨ob, h3⟩ : ∃ x, x = okB b g := ⟨_, rfl⟩
  obtain ⟨⟨ff, ef⟩, h5⟩ : ∃ x, x = beginF t.1.p fl now := ⟨_, rfl⟩
  obtain ⟨ln, h6⟩ : ∃ x, x = lenL now l := ⟨_, rfl⟩
  rw [← h1] at KR
  rw [← h2] at KZ
  rw [← h3] at KO
  rw [← h5] at KB
  rw [← h6] at KN
  rw [← hE, ← h1, ← h2, ← h3, ← h5, ← h6] at HE
  rw [← hE]
  clear hE h1 h2 h3 h5 h6 h hlen
  have tx := tup_x t
  have ts := tup_size t
  have t1 := tup_one t
  have t34 := (tupA_tu t).at.2.2.1
  have zx := pin_x pinZ
  have zs := pin_size pinZ
  have z1 := pin_one pinZ
  have f1 := flA_one ff
  have fx := flA_x ff
  have fs := flA_size ff
  have HIP : Hid (∀ q : PinR, (Try.prog.info? 66).map (·.size) = some (pinA q).size) := hide fun q => by rw [pin_size]; exact info_pin
  have C3 := cells3
  unfold flE flV at KB
  unfold encT at KG ⊢
  dsimp only at KB HE
  obtain ⟨G, hG⟩ : ∃ G, G = getP t now l := ⟨_, rfl⟩
  have KG2 : Hid (∀ W (hs : StoS W p bp bu most l u), Calls Try.prog 52 #[.pointer (some ⟨p, 0, none⟩), .agg (tupA t), .int .i64 now] W (RetV W (gotV G))) := hide fun W hs => by rw [hG]; exact KG.out W l u hs
  rw [← hG] at HE
  clear KG hG
  have gx := pin_x (pinO G)
  have gs := pin_size (pinO G)
  have go1 := pin_one (pinO G)
  unfold gotV at KG2
  cases rt
  · have HV : Hid (E = ((pinZ, 1), (l, u))) := hide (by rw [HE.out, if_pos (.inl rfl)])
    have HB := hide (Below.refl w.heap.size w)
    obtain ⟨W1, hW1, r_t, z1, b1⟩ := alloc_nm w (.cells (tupA t) 63)
    clear z1
    replace HS := hide (HS.out.below b1)
    replace HB := hide (HB.out.trans (b1.mono HB.out.size))
    clear b1
    have N_r := hide HB.out.size
    obtain ⟨W2, hW2, r_r, z2, b2⟩ := alloc_nm W1 (.cells (pinA pinZ) 66)
    clear z2
    replace r_t := keepB b2 r_t
    replace HS := hide (HS.out.below b2)
    replace HB := hide (HB.out.trans (b2.mono HB.out.size))
    clear b2
    go_enter Try.func29, Try.ntmps29
    go_upto_region 3 with (fail)
    have R_t : ∀ q : BW W2, q.w.heap[w.heap.size]? = some (.cells (tupA t) 63 (0, 0)) := fun q => q.block r_t
    have R_r : ∀ q : BW W2, q.w.heap[W1.heap.size]? = some (.cells (pinA pinZ) 66 (0, 0)) := fun q => q.block r_r
    first | refine wp_region_belowS W2 (Below.refl _ _) ?_ | refine wp_region_below W2 (Below.refl _ _) (by kernel_rfl) (by kernel_rfl) ?_
    (try simp only [List.append_eq, List.cons_append, List.nil_append])
    repeat
      first
      | (go_big_quiet_step (first
        | (go_at_call 49; with_reducible exact Calls.bel (KR.out _))
        | (go_at_call 50; with_reducible exact Calls.bel_same (KZ.out _))
        | (go_at_call 51; with_reducible exact Calls.bel_same (KO.out _))
        | fail))
      | (go_big_quiet_want; apply quiet_span; (intro p; go_simp; rfl); (try simp only [Act.put, List.setIfInBounds_toArray, List.set_cons_zero, List.set_cons_succ]); go_big_quiet_on)
    refine wpQuiet_nil ?_
    intro _ hw'
    obtain ⟨pq3, hw''⟩ := hw'
    subst hw''
    clear R_t
    clear R_r
    obtain ⟨W3, b3⟩ := pq3
    dsimp only
    replace r_t := keepB b3 r_t
    replace r_r := keepB b3 r_r
    replace HS := hide (HS.out.below b3)
    replace HB := hide (HB.out.trans (b3.mono HB.out.size))
    clear b3
    have HRr := hide r_r
    go_wp2
    refine bodyPost_ret (results_cell_tmp (fn := Try.f29) Try.results29 _ _ W1.heap.size 66 (pinA pinZ) (0, 0) _ rfl (setRow_heap _ _ _ _ _ _ HRr.out) Try.underlying66 rfl (HIP.out _)) rfl ?_
    exact ⟨by rw [HV.out]; rfl, by rw [HV.out]; exact HS.out.setOther (by have := HLT.out; have := N_r.out; omega), Tou.setOther (Tou.of_below HB.out) (by have := N_r.out; omega) _⟩
  cases cz
  · have HV : Hid (E = ((pinZ, 1), (l, u))) := hide (by rw [HE.out, if_pos (.inr (.inl rfl))])
    have HB := hide (Below.refl w.heap.size w)
    obtain ⟨W1, hW1, r_t, z1, b1⟩ := alloc_nm w (.cells (tupA t) 63)
    clear z1
    replace HS := hide (HS.out.below b1)
    replace HB := hide (HB.out.trans (b1.mono HB.out.size))
    clear b1
    have N_r := hide HB.out.size
    obtain ⟨W2, hW2, r_r, z2, b2⟩ := alloc_nm W1 (.cells (pinA pinZ) 66)
    clear z2
    replace r_t := keepB b2 r_t
    replace HS := hide (HS.out.below b2)
    replace HB := hide (HB.out.trans (b2.mono HB.out.size))
    clear b2
    go_enter Try.func29, Try.ntmps29
    go_upto_region 3 with (fail)
    have R_t : ∀ q : BW W2, q.w.heap[w.heap.size]? = some (.cells (tupA t) 63 (0, 0)) := fun q => q.block r_t
    have R_r : ∀ q : BW W2, q.w.heap[W1.heap.size]? = some (.cells (pinA pinZ) 66 (0, 0)) := fun q => q.block r_r
    first | refine wp_region_belowS W2 (Below.refl _ _) ?_ | refine wp_region_below W2 (Below.refl _ _) (by kernel_rfl) (by kernel_rfl) ?_
    (try simp only [List.append_eq, List.cons_append, List.nil_append])
    repeat
      first
      | (go_big_quiet_step (first
        | (go_at_call 49; with_reducible exact Calls.bel (KR.out _))
        | (go_at_call 50; with_reducible exact Calls.bel_same (KZ.out _))
        | (go_at_call 51; with_reducible exact Calls.bel_same (KO.out _))
        | fail))
      | (go_big_quiet_want; apply quiet_span; (intro p; go_simp; rfl); (try simp only [Act.put, List.setIfInBounds_toArray, List.set_cons_zero, List.set_cons_succ]); go_big_quiet_on)
    refine wpQuiet_nil ?_
    intro _ hw'
    obtain ⟨pq3, hw''⟩ := hw'
    subst hw''
    clear R_t
    clear R_r
    obtain ⟨W3, b3⟩ := pq3
    dsimp only
    replace r_t := keepB b3 r_t
    replace r_r := keepB b3 r_r
    replace HS := hide (HS.out.below b3)
    replace HB := hide (HB.out.trans (b3.mono HB.out.size))
    clear b3
    have HRr := hide r_r
    go_wp2
    refine bodyPost_ret (results_cell_tmp (fn := Try.f29) Try.results29 _ _ W1.heap.size 66 (pinA pinZ) (0, 0) _ rfl (setRow_heap _ _ _ _ _ _ HRr.out) Try.underlying66 rfl (HIP.out _)) rfl ?_
    exact ⟨by rw [HV.out]; rfl, by rw [HV.out]; exact HS.out.setOther (by have := HLT.out; have := N_r.out; omega), Tou.setOther (Tou.of_below HB.out) (by have := N_r.out; omega) _⟩
  cases ob
  · have HV : Hid (E = ((pinZ, 1), (l, u))) := hide (by rw [HE.out, if_pos (.inr (.inr rfl))])
    have HB := hide (Below.refl w.heap.size w)
    obtain ⟨W1, hW1, r_t, z1, b1⟩ := alloc_nm w (.cells (tupA t) 63)
    clear z1
    replace HS := hide (HS.out.below b1)
    replace HB := hide (HB.out.trans (b1.mono HB.out.size))
    clear b1
    have N_r := hide HB.out.size
    obtain ⟨W2, hW2, r_r, z2, b2⟩ := alloc_nm W1 (.cells (pinA pinZ) 66)
    clear z2
    replace r_t := keepB b2 r_t
    replace HS := hide (HS.out.below b2)
    replace HB := hide (HB.out.trans (b2.mono HB.out.size))
    clear b2
    go_enter Try.func29, Try.ntmps29
    go_upto_region 3 with (fail)
    have R_t : ∀ q : BW W2, q.w.heap[w.heap.size]? = some (.cells (tupA t) 63 (0, 0)) := fun q => q.block r_t
    have R_r : ∀ q : BW W2, q.w.heap[W1.heap.size]? = some (.cells (pinA pinZ) 66 (0, 0)) := fun q => q.block r_r
    first | refine wp_region_belowS W2 (Below.refl _ _) ?_ | refine wp_region_below W2 (Below.refl _ _) (by kernel_rfl) (by kernel_rfl) ?_
    (try simp only [List.append_eq, List.cons_append, List.nil_append])
    repeat
      first
      | (go_big_quiet_step (first
        | (go_at_call 49; with_reducible exact Calls.bel (KR.out _))
        | (go_at_call 50; with_reducible exact Calls.bel_same (KZ.out _))
        | (go_at_call 51; with_reducible exact Calls.bel_same (KO.out _))
        | fail))
      | (go_big_quiet_want; apply quiet_span; (intro p; go_simp; rfl); (try simp only [Act.put, List.setIfInBounds_toArray, List.set_cons_zero, List.set_cons_succ]); go_big_quiet_on)
    refine wpQuiet_nil ?_
    intro _ hw'
    obtain ⟨pq3, hw''⟩ := hw'
    subst hw''
    clear R_t
    clear R_r
    obtain ⟨W3, b3⟩ := pq3
    dsimp only
    replace r_t := keepB b3 r_t
    replace r_r := keepB b3 r_r
    replace HS := hide (HS.out.below b3)
    replace HB := hide (HB.out.trans (b3.mono HB.out.size))
    clear b3
    have HRr := hide r_r
    go_wp2
    refine bodyPost_ret (results_cell_tmp (fn := Try.f29) Try.results29 _ _ W1.heap.size 66 (pinA pinZ) (0, 0) _ rfl (setRow_heap _ _ _ _ _ _ HRr.out) Try.underlying66 rfl (HIP.out _)) rfl ?_
    exact ⟨by rw [HV.out]; rfl, by rw [HV.out]; exact HS.out.setOther (by have := HLT.out; have := N_r.out; omega), Tou.setOther (Tou.of_below HB.out) (by have := N_r.out; omega) _⟩
  have HE2 := hide (by have := HE.out; rw [if_neg (by simp)] at this; exact this)
  clear HE
  cases hgs : G.isSome
  · have HE3 := hide (by have := HE2.out; rw [if_neg (by rw [hgs]; simp)] at this; exact this)
    clear HE2
    rw [hgs] at KG2
    by_cases he : ef = 0
    · subst he
      have HE4 := hide (by have := HE3.out; rw [if_neg (by simp)] at this; exact this)
      clear HE3
      by_cases hm : most ≤ (ln : Int)
      · have HV : Hid (E = ((pinZ, 4), (l, u))) := hide (by rw [HE4.out, if_pos hm])
        have hm2 : decide ((ln : Int) ≥ most) = true := by simpa using hm
        clear HE4 hm
        have HB := hide (Below.refl w.heap.size w)
        obtain ⟨W1, hW1, r_t, z1, b1⟩ := alloc_nm w (.cells (tupA t) 63)
        clear z1
        replace HS := hide (HS.out.below b1)
        replace HB := hide (HB.out.trans (b1.mono HB.out.size))
        clear b1
        have N_r := hide HB.out.size
        obtain ⟨W2, hW2, r_r, z2, b2⟩ := alloc_nm W1 (.cells (pinA pinZ) 66)
        clear z2
        replace r_t := keepB b2 r_t
        replace HS := hide (HS.out.below b2)
        replace HB := hide (HB.out.trans (b2.mono HB.out.size))
        clear b2
        go_enter Try.func29, Try.ntmps29
        go_upto_region 3 with (fail)
        have R_t : ∀ q : BW W2, q.w.heap[w.heap.size]? = some (.cells (tupA t) 63 (0, 0)) := fun q => q.block r_t
        have R_r : ∀ q : BW W2, q.w.heap[W1.heap.size]? = some (.cells (pinA pinZ) 66 (0, 0)) := fun q => q.block r_r
        first | refine wp_region_belowS W2 (Below.refl _ _) ?_ | refine wp_region_below W2 (Below.refl _ _) (by kernel_rfl) (by kernel_rfl) ?_
        (try simp only [List.append_eq, List.cons_append, List.nil_append])
        repeat
          first
          | (go_big_quiet_step (first
            | (go_at_call 49; with_reducible exact Calls.bel (KR.out _))
            | (go_at_call 50; with_reducible exact Calls.bel_same (KZ.out _))
            | (go_at_call 51; with_reducible exact Calls.bel_same (KO.out _))
            | fail))
          | (go_big_quiet_want; apply quiet_span; (intro p; go_simp; rfl); (try simp only [Act.put, List.setIfInBounds_toArray, List.set_cons_zero, List.set_cons_succ]); go_big_quiet_on)
        refine wpQuiet_nil ?_
        intro _ hw'
        obtain ⟨pq3, hw''⟩ := hw'
        subst hw''
        clear R_t
        clear R_r
        obtain ⟨W3, b3⟩ := pq3
        dsimp only
        replace r_t := keepB b3 r_t
        replace r_r := keepB b3 r_r
        replace HS := hide (HS.out.below b3)
        replace HB := hide (HB.out.trans (b3.mono HB.out.size))
        clear b3
        go_wp2_with fail
        go_at_call 52
        with_reducible refine (KG2.out _ HS.out).mono ?_
        rintro e W4 ⟨rfl, b4⟩
        replace r_t := keepB b4 r_t
        replace r_r := keepB b4 r_r
        replace HS := hide (HS.out.below b4)
        replace HB := hide (HB.out.trans (b4.mono HB.out.size))
        clear b4
        dsimp only
        obtain ⟨W5, hW5, r_l, z5, b5⟩ := alloc_nm W4 (.cells (pinA (pinO G)) 66)
        clear z5
        replace r_t := keepB b5 r_t
        replace r_r := keepB b5 r_r
        replace HS := hide (HS.out.below b5)
        replace HB := hide (HB.out.trans (b5.mono HB.out.size))
        clear b5
        have k34 := (cell_of_row W5 _ 34 _ _ (0, 0) r_t).trans t34
        go_wp2_with fail
        go_at_call 12
        with_reducible refine (KB.out _).mono ?_
        rintro e W6 ⟨rfl, b6⟩
        replace r_t := keepB b6 r_t
        replace r_r := keepB b6 r_r
        replace r_l := keepB b6 r_l
        replace HS := hide (HS.out.below b6)
        replace HB := hide (HB.out.trans (b6.mono HB.out.size))
        clear b6
        dsimp only
        have N_f := hide HB.out.size
        obtain ⟨W7, hW7, r_f, z7, b7⟩ := alloc_nm W6 (.cells (flA ff) 24)
        clear z7
        replace r_t := keepB b7 r_t
        replace r_r := keepB b7 r_r
        replace r_l := keepB b7 r_l
        replace HS := hide (HS.out.below b7)
        replace HB := hide (HB.out.trans (b7.mono HB.out.size))
        clear b7
        have kM : ∀ q : BW W7, q.w.cell? ⟨p, 0, none⟩ = some (.int .i64 most) := fun q => (cell_of_row q.w p 0 _ _ (0, 0) (HS.out.below q.below).blk).trans rfl
        have KN2 := hide (fun q : BW W7 => KN.out q.w (HS.out.below q.below))
        go_upto_region 11 with (fail)
        have R_t : ∀ q : BW W7, q.w.heap[w.heap.size]? = some (.cells (tupA t) 63 (0, 0)) := fun q => q.block r_t
        have R_r : ∀ q : BW W7, q.w.heap[W1.heap.size]? = some (.cells (pinA pinZ) 66 (0, 0)) := fun q => q.block r_r
        have R_l : ∀ q : BW W7, q.w.heap[W4.heap.size]? = some (.cells (pinA (pinO G)) 66 (0, 0)) := fun q => q.block r_l
        have R_f : ∀ q : BW W7, q.w.heap[W6.heap.size]? = some (.cells (flA ff) 24 (0, 0)) := fun q => q.block r_f
        first | refine wp_region_belowS W7 (Below.refl _ _) ?_ | refine wp_region_below W7 (Below.refl _ _) (by kernel_rfl) (by kernel_rfl) ?_
        (try simp only [List.append_eq, List.cons_append, List.nil_append])
        repeat
          first
          | (go_big_quiet_step (first
            | (go_at_call 33; with_reducible exact Calls.bel (KN2.out _))
            | fail))
          | (go_big_quiet_want; apply quiet_span; (intro p; go_simp; rfl); (try simp only [Act.put, List.setIfInBounds_toArray, List.set_cons_zero, List.set_cons_succ]); go_big_quiet_on)
        refine wpQuiet_nil ?_
        intro _ hw'
        obtain ⟨pq8, hw''⟩ := hw'
        subst hw''
        clear R_t
        clear R_r
        clear R_l
        clear R_f
        obtain ⟨W8, b8⟩ := pq8
        dsimp only
        replace r_t := keepB b8 r_t
        replace r_r := keepB b8 r_r
        replace r_l := keepB b8 r_l
        replace r_f := keepB b8 r_f
        replace HS := hide (HS.out.below b8)
        replace HB := hide (HB.out.trans (b8.mono HB.out.size))
        clear b8
        clear kM KN2
        have HRr := hide r_r
        go_wp2
        refine bodyPost_ret (results_cell_tmp (fn := Try.f29) Try.results29 _ _ W1.heap.size 66 (pinA pinZ) (0, 0) _ rfl (setRow_heap _ _ _ _ _ _ HRr.out) Try.underlying66 rfl (HIP.out _)) rfl ?_
        exact ⟨by rw [HV.out]; rfl, by rw [HV.out]; exact HS.out.setOther (by have := HLT.out; have := N_r.out; omega), Tou.setOther (Tou.of_below HB.out) (by have := N_r.out; omega) _⟩
      · have HV : Hid (E = ((⟨t, b, g, ff⟩, 0), (putP ⟨t, b, g, ff⟩ (sweepL now l), untP ⟨t, b, g, ff⟩ z u))) := hide (by rw [HE4.out, if_neg hm])
        have hm2 : decide ((ln : Int) ≥ most) = false := by simpa using hm
        clear HE4 hm
        have HB := hide (Below.refl w.heap.size w)
        obtain ⟨W1, hW1, r_t, z1, b1⟩ := alloc_nm w (.cells (tupA t) 63)
        clear z1
        replace HS := hide (HS.out.below b1)
        replace HB := hide (HB.out.trans (b1.mono HB.out.size))
        clear b1
        have N_r := hide HB.out.size
        obtain ⟨W2, hW2, r_r, z2, b2⟩ := alloc_nm W1 (.cells (pinA pinZ) 66)
        clear z2
        replace r_t := keepB b2 r_t
        replace HS := hide (HS.out.below b2)
        replace HB := hide (HB.out.trans (b2.mono HB.out.size))
        clear b2
        go_enter Try.func29, Try.ntmps29
        go_upto_region 3 with (fail)
        have R_t : ∀ q : BW W2, q.w.heap[w.heap.size]? = some (.cells (tupA t) 63 (0, 0)) := fun q => q.block r_t
        have R_r : ∀ q : BW W2, q.w.heap[W1.heap.size]? = some (.cells (pinA pinZ) 66 (0, 0)) := fun q => q.block r_r
        first | refine wp_region_belowS W2 (Below.refl _ _) ?_ | refine wp_region_below W2 (Below.refl _ _) (by kernel_rfl) (by kernel_rfl) ?_
        (try simp only [List.append_eq, List.cons_append, List.nil_append])
        repeat
          first
          | (go_big_quiet_step (first
            | (go_at_call 49; with_reducible exact Calls.bel (KR.out _))
            | (go_at_call 50; with_reducible exact Calls.bel_same (KZ.out _))
            | (go_at_call 51; with_reducible exact Calls.bel_same (KO.out _))
            | fail))
          | (go_big_quiet_want; apply quiet_span; (intro p; go_simp; rfl); (try simp only [Act.put, List.setIfInBounds_toArray, List.set_cons_zero, List.set_cons_succ]); go_big_quiet_on)
        refine wpQuiet_nil ?_
        intro _ hw'
        obtain ⟨pq3, hw''⟩ := hw'
        subst hw''
        clear R_t
        clear R_r
        obtain ⟨W3, b3⟩ := pq3
        dsimp only
        replace r_t := keepB b3 r_t
        replace r_r := keepB b3 r_r
        replace HS := hide (HS.out.below b3)
        replace HB := hide (HB.out.trans (b3.mono HB.out.size))
        clear b3
        go_wp2_with fail
        go_at_call 52
        with_reducible refine (KG2.out _ HS.out).mono ?_
        rintro e W4 ⟨rfl, b4⟩
        replace r_t := keepB b4 r_t
        replace r_r := keepB b4 r_r
        replace HS := hide (HS.out.below b4)
        replace HB := hide (HB.out.trans (b4.mono HB.out.size))
        clear b4
        dsimp only
        obtain ⟨W5, hW5, r_l, z5, b5⟩ := alloc_nm W4 (.cells (pinA (pinO G)) 66)
        clear z5
        replace r_t := keepB b5 r_t
        replace r_r := keepB b5 r_r
        replace HS := hide (HS.out.below b5)
        replace HB := hide (HB.out.trans (b5.mono HB.out.size))
        clear b5
        have k34 := (cell_of_row W5 _ 34 _ _ (0, 0) r_t).trans t34
        go_wp2_with fail
        go_at_call 12
        with_reducible refine (KB.out _).mono ?_
        rintro e W6 ⟨rfl, b6⟩
        replace r_t := keepB b6 r_t
        replace r_r := keepB b6 r_r
        replace r_l := keepB b6 r_l
        replace HS := hide (HS.out.below b6)
        replace HB := hide (HB.out.trans (b6.mono HB.out.size))
        clear b6
        dsimp only
        have N_f := hide HB.out.size
        obtain ⟨W7, hW7, r_f, z7, b7⟩ := alloc_nm W6 (.cells (flA ff) 24)
        clear z7
        replace r_t := keepB b7 r_t
        replace r_r := keepB b7 r_r
        replace r_l := keepB b7 r_l
        replace HS := hide (HS.out.below b7)
        replace HB := hide (HB.out.trans (b7.mono HB.out.size))
        clear b7
        have kM : ∀ q : BW W7, q.w.cell? ⟨p, 0, none⟩ = some (.int .i64 most) := fun q => (cell_of_row q.w p 0 _ _ (0, 0) (HS.out.below q.below).blk).trans rfl
        have KN2 := hide (fun q : BW W7 => KN.out q.w (HS.out.below q.below))
        go_upto_region 11 with (fail)
        have R_t : ∀ q : BW W7, q.w.heap[w.heap.size]? = some (.cells (tupA t) 63 (0, 0)) := fun q => q.block r_t
        have R_r : ∀ q : BW W7, q.w.heap[W1.heap.size]? = some (.cells (pinA pinZ) 66 (0, 0)) := fun q => q.block r_r
        have R_l : ∀ q : BW W7, q.w.heap[W4.heap.size]? = some (.cells (pinA (pinO G)) 66 (0, 0)) := fun q => q.block r_l
        have R_f : ∀ q : BW W7, q.w.heap[W6.heap.size]? = some (.cells (flA ff) 24 (0, 0)) := fun q => q.block r_f
        first | refine wp_region_belowS W7 (Below.refl _ _) ?_ | refine wp_region_below W7 (Below.refl _ _) (by kernel_rfl) (by kernel_rfl) ?_
        (try simp only [List.append_eq, List.cons_append, List.nil_append])
        repeat
          first
          | (go_big_quiet_step (first
            | (go_at_call 33; with_reducible exact Calls.bel (KN2.out _))
            | fail))
          | (go_big_quiet_want; apply quiet_span; (intro p; go_simp; rfl); (try simp only [Act.put, List.setIfInBounds_toArray, List.set_cons_zero, List.set_cons_succ]); go_big_quiet_on)
        refine wpQuiet_nil ?_
        intro _ hw'
        obtain ⟨pq8, hw''⟩ := hw'
        subst hw''
        clear R_t
        clear R_r
        clear R_l
        clear R_f
        obtain ⟨W8, b8⟩ := pq8
        dsimp only
        replace r_t := keepB b8 r_t
        replace r_r := keepB b8 r_r
        replace r_l := keepB b8 r_l
        replace r_f := keepB b8 r_f
        replace HS := hide (HS.out.below b8)
        replace HB := hide (HB.out.trans (b8.mono HB.out.size))
        clear b8
        clear kM KN2
        have qx := pin_x (⟨t, b, g, ff⟩ : PinR)
        have qs := pin_size (⟨t, b, g, ff⟩ : PinR)
        have qo := pin_one (⟨t, b, g, ff⟩ : PinR)
        go_wp2_with fail
        go_at_call 38
        with_reducible refine (KW.out _ HS.out).mono ?_
        rintro e W9 ⟨rfl, hS9, hT9⟩
        replace r_t := keepT hT9 (by have := HLT.out; omega) (by have := HLT.out; omega) r_t
        replace r_r := keepT hT9 (by have := HLT.out; have := N_r.out; omega) (by have := HLT.out; have := N_r.out; omega) r_r
        replace r_f := keepT hT9 (by have := HLT.out; have := N_f.out; omega) (by have := HLT.out; have := N_f.out; omega) r_f
        have HTO := hide ((Tou.of_below HB.out).trans hT9)
        replace HS := hide hS9
        clear hS9 hT9
        dsimp only
        obtain ⟨W10, hW10, r_q, z10, b10⟩ := alloc_nm W9 (.cells (pinA ⟨t, b, g, ff⟩) 66)
        have N_q := hide HTO.out.size
        clear z10
        replace r_r := keepB b10 r_r
        replace HS := hide (HS.out.below b10)
        replace HTO := hide (HTO.out.bel_ b10)
        clear b10
        have KP := hide (stoPut_any HS.out (⟨t, b, g, ff⟩ : PinR) z)
        go_wp2_with fail
        go_at_call 53
        with_reducible refine KP.out.mono ?_
        rintro e W11 ⟨rfl, hS11, hT11⟩
        have r_r := keepT hT11 (by have := HLT.out; have := N_r.out; omega) (by have := HLT.out; have := N_r.out; omega) r_r
        have r_q := keepT hT11 (by have := HLT.out; have := N_q.out; omega) (by have := HLT.out; have := N_q.out; omega) r_q
        replace HTO := hide (HTO.out.trans hT11)
        replace HS := hide hS11
        clear hS11 hT11 KP
        dsimp only
        have HRr := hide r_r
        go_wp2
        refine bodyPost_ret (results_cell_tmp (fn := Try.f29) Try.results29 _ _ W1.heap.size 66 (pinA ⟨t, b, g, ff⟩) (0, 0) _ rfl (setRow_heap _ _ _ _ _ _ HRr.out) Try.underlying66 rfl (HIP.out _)) rfl ?_
        exact ⟨by rw [HV.out]; rfl, by rw [HV.out]; exact HS.out.setOther (by have := HLT.out; have := N_r.out; omega), Tou.setOther HTO.out (by have := N_r.out; omega) _⟩
    · have HV : Hid (E = ((pinZ, ef), (l, u))) := hide (by rw [HE3.out, if_pos he])
      have he2 : (ef != 0) = true := by simpa using he
      clear HE3
      have HB := hide (Below.refl w.heap.size w)
      obtain ⟨W1, hW1, r_t, z1, b1⟩ := alloc_nm w (.cells (tupA t) 63)
      clear z1
      replace HS := hide (HS.out.below b1)
      replace HB := hide (HB.out.trans (b1.mono HB.out.size))
      clear b1
      have N_r := hide HB.out.size
      obtain ⟨W2, hW2, r_r, z2, b2⟩ := alloc_nm W1 (.cells (pinA pinZ) 66)
      clear z2
      replace r_t := keepB b2 r_t
      replace HS := hide (HS.out.below b2)
      replace HB := hide (HB.out.trans (b2.mono HB.out.size))
      clear b2
      go_enter Try.func29, Try.ntmps29
      go_upto_region 3 with (fail)
      have R_t : ∀ q : BW W2, q.w.heap[w.heap.size]? = some (.cells (tupA t) 63 (0, 0)) := fun q => q.block r_t
      have R_r : ∀ q : BW W2, q.w.heap[W1.heap.size]? = some (.cells (pinA pinZ) 66 (0, 0)) := fun q => q.block r_r
      first | refine wp_region_belowS W2 (Below.refl _ _) ?_ | refine wp_region_below W2 (Below.refl _ _) (by kernel_rfl) (by kernel_rfl) ?_
      (try simp only [List.append_eq, List.cons_append, List.nil_append])
      repeat
        first
        | (go_big_quiet_step (first
          | (go_at_call 49; with_reducible exact Calls.bel (KR.out _))
          | (go_at_call 50; with_reducible exact Calls.bel_same (KZ.out _))
          | (go_at_call 51; with_reducible exact Calls.bel_same (KO.out _))
          | fail))
        | (go_big_quiet_want; apply quiet_span; (intro p; go_simp; rfl); (try simp only [Act.put, List.setIfInBounds_toArray, List.set_cons_zero, List.set_cons_succ]); go_big_quiet_on)
      refine wpQuiet_nil ?_
      intro _ hw'
      obtain ⟨pq3, hw''⟩ := hw'
      subst hw''
      clear R_t
      clear R_r
      obtain ⟨W3, b3⟩ := pq3
      dsimp only
      replace r_t := keepB b3 r_t
      replace r_r := keepB b3 r_r
      replace HS := hide (HS.out.below b3)
      replace HB := hide (HB.out.trans (b3.mono HB.out.size))
      clear b3
      go_wp2_with fail
      go_at_call 52
      with_reducible refine (KG2.out _ HS.out).mono ?_
      rintro e W4 ⟨rfl, b4⟩
      replace r_t := keepB b4 r_t
      replace r_r := keepB b4 r_r
      replace HS := hide (HS.out.below b4)
      replace HB := hide (HB.out.trans (b4.mono HB.out.size))
      clear b4
      dsimp only
      obtain ⟨W5, hW5, r_l, z5, b5⟩ := alloc_nm W4 (.cells (pinA (pinO G)) 66)
      clear z5
      replace r_t := keepB b5 r_t
      replace r_r := keepB b5 r_r
      replace HS := hide (HS.out.below b5)
      replace HB := hide (HB.out.trans (b5.mono HB.out.size))
      clear b5
      have k34 := (cell_of_row W5 _ 34 _ _ (0, 0) r_t).trans t34
      go_wp2_with fail
      go_at_call 12
      with_reducible refine (KB.out _).mono ?_
      rintro e W6 ⟨rfl, b6⟩
      replace r_t := keepB b6 r_t
      replace r_r := keepB b6 r_r
      replace r_l := keepB b6 r_l
      replace HS := hide (HS.out.below b6)
      replace HB := hide (HB.out.trans (b6.mono HB.out.size))
      clear b6
      dsimp only
      obtain ⟨W7, hW7, r_f, z7, b7⟩ := alloc_nm W6 (.cells (flA ff) 24)
      clear z7
      replace r_t := keepB b7 r_t
      replace r_r := keepB b7 r_r
      replace r_l := keepB b7 r_l
      replace HS := hide (HS.out.below b7)
      replace HB := hide (HB.out.trans (b7.mono HB.out.size))
      clear b7
      have HRr := hide r_r
      go_wp2
      refine bodyPost_ret (results_cell_tmp (fn := Try.f29) Try.results29 _ _ W1.heap.size 66 (pinA pinZ) (0, 0) _ rfl (setRow_heap _ _ _ _ _ _ HRr.out) Try.underlying66 rfl (HIP.out _)) rfl ?_
      exact ⟨by rw [HV.out]; rfl, by rw [HV.out]; exact HS.out.setOther (by have := HLT.out; have := N_r.out; omega), Tou.setOther (Tou.of_below HB.out) (by have := N_r.out; omega) _⟩
  · have HV : Hid (E = ((pinZ, 5), (l, u))) := hide (by rw [HE2.out, if_pos hgs])
    clear HE2
    rw [hgs] at KG2
    have HB := hide (Below.refl w.heap.size w)
    obtain ⟨W1, hW1, r_t, z1, b1⟩ := alloc_nm w (.cells (tupA t) 63)
    clear z1
    replace HS := hide (HS.out.below b1)
    replace HB := hide (HB.out.trans (b1.mono HB.out.size))
    clear b1
    have N_r := hide HB.out.size
    obtain ⟨W2, hW2, r_r, z2, b2⟩ := alloc_nm W1 (.cells (pinA pinZ) 66)
    clear z2
    replace r_t := keepB b2 r_t
    replace HS := hide (HS.out.below b2)
    replace HB := hide (HB.out.trans (b2.mono HB.out.size))
    clear b2
    go_enter Try.func29, Try.ntmps29
    go_upto_region 3 with (fail)
    have R_t : ∀ q : BW W2, q.w.heap[w.heap.size]? = some (.cells (tupA t) 63 (0, 0)) := fun q => q.block r_t
    have R_r : ∀ q : BW W2, q.w.heap[W1.heap.size]? = some (.cells (pinA pinZ) 66 (0, 0)) := fun q => q.block r_r
    first | refine wp_region_belowS W2 (Below.refl _ _) ?_ | refine wp_region_below W2 (Below.refl _ _) (by kernel_rfl) (by kernel_rfl) ?_
    (try simp only [List.append_eq, List.cons_append, List.nil_append])
    repeat
      first
      | (go_big_quiet_step (first
        | (go_at_call 49; with_reducible exact Calls.bel (KR.out _))
        | (go_at_call 50; with_reducible exact Calls.bel_same (KZ.out _))
        | (go_at_call 51; with_reducible exact Calls.bel_same (KO.out _))
        | fail))
      | (go_big_quiet_want; apply quiet_span; (intro p; go_simp; rfl); (try simp only [Act.put, List.setIfInBounds_toArray, List.set_cons_zero, List.set_cons_succ]); go_big_quiet_on)
    refine wpQuiet_nil ?_
    intro _ hw'
    obtain ⟨pq3, hw''⟩ := hw'
    subst hw''
    clear R_t
    clear R_r
    obtain ⟨W3, b3⟩ := pq3
    dsimp only
    replace r_t := keepB b3 r_t
    replace r_r := keepB b3 r_r
    replace HS := hide (HS.out.below b3)
    replace HB := hide (HB.out.trans (b3.mono HB.out.size))
    clear b3
    go_wp2_with fail
    go_at_call 52
    with_reducible refine (KG2.out _ HS.out).mono ?_
    rintro e W4 ⟨rfl, b4⟩
    replace r_t := keepB b4 r_t
    replace r_r := keepB b4 r_r
    replace HS := hide (HS.out.below b4)
    replace HB := hide (HB.out.trans (b4.mono HB.out.size))
    clear b4
    dsimp only
    obtain ⟨W5, hW5, r_l, z5, b5⟩ := alloc_nm W4 (.cells (pinA (pinO G)) 66)
    clear z5
    replace r_t := keepB b5 r_t
    replace r_r := keepB b5 r_r
    replace HS := hide (HS.out.below b5)
    replace HB := hide (HB.out.trans (b5.mono HB.out.size))
    clear b5
    have HRr := hide r_r
    go_wp2
    refine bodyPost_ret (results_cell_tmp (fn := Try.f29) Try.results29 _ _ W1.heap.size 66 (pinA pinZ) (0, 0) _ rfl (setRow_heap _ _ _ _ _ _ HRr.out) Try.underlying66 rfl (HIP.out _)) rfl ?_
    exact ⟨by rw [HV.out]; rfl, by rw [HV.out]; exact HS.out.setOther (by have := HLT.out; have := N_r.out; omega), Tou.setOther (Tou.of_below HB.out) (by have := N_r.out; omega) _⟩
end Go.Proofs.Ytbkipfmnbfjkcaa
