/-
  Another packet of a flow.
-/
import Derived.Test.YtbkipfmnbfjkcaaVw
import Derived.Laws.CopyRow
namespace Go.Proofs.Ytbkipfmnbfjkcaa
open Go.RowKit
set_option maxRecDepth 100000
set_option linter.unusedVariables false
set_option linter.unusedSimpArgs false
attribute [local go_sem ↓] exec_span exec_put exec_build heap_alloc_new heap_old
attribute [local go_sem] spanQ_ptr spanC_some heap_of_drew heap_of_drewN putAt_ptr putOk_ptr oldOk_some World.setRow_alloc_new rs_Flow rs_Pin rs_Com rs_Sto rs_Que rs_tup built_pin0 built_com built_pin pinZ_lit tkZ_lit
theorem pin_list (q : PinR) (f : Flw) : (pinL q).take 39 ++ (flA f).toList ++ (pinL q).drop 42 = pinL { q with f := f } := by
  have h := tupL_len q.t
  unfold pinL
  rw [List.take_append, List.drop_append, List.take_of_length_le (by omega), List.drop_of_length_le (by omega), h]
  simp [flA]
theorem pin_store {w : World} {g : Nat} (q : PinR) (f : Flw) (hg : w.heap[g]? = some (.cells (pinA q) 66 (0, 0))) : (storeCells ⟨g, 39, none⟩ (flA f).toList).run Try.prog w = .ok () (w.setRow g (pinA { q with f := f })) := by
  have hs := pin_size q
  have := run_storeCells_at (P := Try.prog) g 39 66 (flA f).toList 0 (pinA q) w hg (by rw [hs]; simp [flA]) (fun v hv => by simp [flA] at hv; rcases hv with rfl | rfl | rfl <;> rfl)
  rw [this]
  have e := pin_list q f
  unfold pinA
  simp only [Nat.add_zero]
  rw [← e]
  simp [flA]
/-- what comes of another packet: the pin and the error; the pins; until when backends may be used. -/
def packetS (l : List PinR) (u : List ((Int × Int) × Int)) (t : TK) (fl now z : Int) : (PinR × Int) × (List PinR × List ((Int × Int) × Int)) :=
  if rightT t.1 = false ∨ clockB z = false then ((pinZ, 1), (l, u))
  else if (getP t now l).isSome = false then ((pinZ, 20), (l, u))
  else if (stepF (pinO (getP t now l)).f fl now).2 ≠ 0 then ((pinZ, (stepF (pinO (getP t now l)).f fl now).2), (l, u))
  else (({ pinO (getP t now l) with f := (stepF (pinO (getP t now l)).f fl now).1 }, 0), (putP { pinO (getP t now l) with f := (stepF (pinO (getP t now l)).f fl now).1 } l, untP { pinO (getP t now l) with f := (stepF (pinO (getP t now l)).f fl now).1 } z u))
set_option maxHeartbeats 16000000 in
theorem packetS_any {w : World} {p bp bu : Nat} {most : Int} {l : List PinR} {u : List ((Int × Int) × Int)} (h : StoS w p bp bu most l u) (t : TK) (fl now z : Int) :
    Calls Try.prog 30 #[.pointer (some ⟨p, 0, none⟩), encT t, .int .i64 fl, .int .i64 now, .int .i64 z] w fun e w' =>
      e = .returned (pinEV (packetS l u t fl now z).1) ∧ StoS w' p bp bu most (packetS l u t fl now z).2.1 (packetS l u t fl now z).2.2 ∧ Tou w w' bp bu := by
  have HS := hide h
  have HLT := hide h.lt
  have KR := hide (fun W => righttuple_any W (tupA t) t.1 (tupA_tu t))
  have KZ := hide (fun W => rightTimeS_any W z)
  have KG := hide (fun W (hs : StoS W p bp bu most l u) => living_any hs t now)
  have HE : Hid (packetS l u t fl now z = if rightT t.1 = false ∨ clockB z = false then ((pinZ, 1), (l, u))
    else if (getP t now l).isSome = false then ((pinZ, 20), (l, u))
    else if (stepF (pinO (getP t now l)).f fl now).2 ≠ 0 then ((pinZ, (stepF (pinO (getP t now l)).f fl now).2), (l, u))
    else (({ pinO (getP t now l) with f := (stepF (pinO (getP t now l)).f fl now).1 }, 0), (putP { pinO (getP t now l) with f := (stepF (pinO (getP t now l)).f fl now).1 } l, untP { pinO (getP t now l) with f := (stepF (pinO (getP t now l)).f fl now).1 } z u))) := hide rfl
  obtain ⟨E, hE⟩ : ∃ x, x = packetS l u t fl now z := ⟨_, rfl⟩
  obtain ⟨rt, h1⟩ : ∃ x, x = rightT t.1 := ⟨_, rfl⟩
  obtain ⟨cz, h2⟩ : ∃ x, x = clockB z := ⟨_, rfl⟩
  obtain ⟨G, h3⟩ : ∃ x, x = getP t now l := ⟨_, rfl⟩
  have KG2 : Hid (∀ W (hs : StoS W p bp bu most l u), Calls Try.prog 52 #[.pointer (some ⟨p, 0, none⟩), .agg (tupA t), .int .i64 now] W (RetV W (gotV G))) := hide fun W hs => by rw [h3]; exact KG.out W hs
  have KB := hide (fun W => stepF_any W (pinO G).f fl now)
  rw [← h1] at KR
  rw [← h2] at KZ
  rw [← hE, ← h1, ← h2, ← h3] at HE
  rw [← hE]
  obtain ⟨⟨ff, ef⟩, h5⟩ : ∃ x, x = stepF (pinO G).f fl now := ⟨_, rfl⟩
  rw [← h5] at KB HE
  dsimp only at HE
  clear hE h1 h2 h3 h5 h KG
  have tx := tup_x t
  have ts := tup_size t
  have t1 := tup_one t
  have zx := pin_x pinZ
  have zs := pin_size pinZ
  have z1 := pin_one pinZ
  have f1 := flA_one ff
  have fx := flA_x ff
  have fs := flA_size ff
  have gx := pin_x (pinO G)
  have gs := pin_size (pinO G)
  have go1 := pin_one (pinO G)
  have gf := pin_flow (pinO G)
  have HIP : Hid (∀ q : PinR, (Try.prog.info? 66).map (·.size) = some (pinA q).size) := hide fun q => by rw [pin_size]; exact info_pin
  have C3 := cells3
  unfold flE flV at KB
  unfold gotV at KG2
  unfold encT
  dsimp only at KB
  cases rt
  · have HV : Hid (E = ((pinZ, 1), (l, u))) := hide (by rw [HE.out, if_pos (.inl rfl)])
    have HB := hide (Below.refl w.heap.size w)
    obtain ⟨W1, hW1, r_t, z1, b1⟩ := alloc_nm w (.cells (tupA t) 63)
    clear z1
    replace HS := hide (HS.out.below b1)
    replace HB := hide (HB.out.trans (b1.mono HB.out.size))
    clear b1
    have N_r := hide HB.out.size
    obtain ⟨W2, hW2, r_r, z2, b2⟩ := alloc_nm W1 (.cells (pinA pinZ) 66)
    clear z2
    replace r_t := keepB b2 r_t
    replace HS := hide (HS.out.below b2)
    replace HB := hide (HB.out.trans (b2.mono HB.out.size))
    clear b2
    go_enter Try.func30, Try.ntmps30
    go_upto_region 3 with (fail)
    have R_t : ∀ q : BW W2, q.w.heap[w.heap.size]? = some (.cells (tupA t) 63 (0, 0)) := fun q => q.block r_t
    have R_r : ∀ q : BW W2, q.w.heap[W1.heap.size]? = some (.cells (pinA pinZ) 66 (0, 0)) := fun q => q.block r_r
    first | refine wp_region_belowS W2 (Below.refl _ _) ?_ | refine wp_region_below W2 (Below.refl _ _) (by kernel_rfl) (by kernel_rfl) ?_
    (try simp only [List.append_eq, List.cons_append, List.nil_append])
    repeat
      first
      | (go_big_quiet_step (first
        | (go_at_call 49; with_reducible exact Calls.bel (KR.out _))
        | (go_at_call 50; with_reducible exact Calls.bel_same (KZ.out _))
        | fail))
      | (go_big_quiet_want; apply quiet_span; (intro p; go_simp; rfl); (try simp only [Act.put, List.setIfInBounds_toArray, List.set_cons_zero, List.set_cons_succ]); go_big_quiet_on)
    refine wpQuiet_nil ?_
    intro _ hw'
    obtain ⟨pq3, hw''⟩ := hw'
    subst hw''
    clear R_t
    clear R_r
    obtain ⟨W3, b3⟩ := pq3
    dsimp only
    replace r_t := keepB b3 r_t
    replace r_r := keepB b3 r_r
    replace HS := hide (HS.out.below b3)
    replace HB := hide (HB.out.trans (b3.mono HB.out.size))
    clear b3
    have HRr := hide r_r
    go_wp2
    refine bodyPost_ret (results_cell_tmp (fn := Try.f30) Try.results30 _ _ W1.heap.size 66 (pinA pinZ) (0, 0) _ rfl (setRow_heap _ _ _ _ _ _ HRr.out) Try.underlying66 rfl (HIP.out _)) rfl ?_
    exact ⟨by rw [HV.out]; rfl, by rw [HV.out]; exact HS.out.setOther (by have := HLT.out; have := N_r.out; omega), Tou.setOther (Tou.of_below HB.out) (by have := N_r.out; omega) _⟩
  cases cz
  · have HV : Hid (E = ((pinZ, 1), (l, u))) := hide (by rw [HE.out, if_pos (.inr rfl)])
    have HB := hide (Below.refl w.heap.size w)
    obtain ⟨W1, hW1, r_t, z1, b1⟩ := alloc_nm w (.cells (tupA t) 63)
    clear z1
    replace HS := hide (HS.out.below b1)
    replace HB := hide (HB.out.trans (b1.mono HB.out.size))
    clear b1
    have N_r := hide HB.out.size
    obtain ⟨W2, hW2, r_r, z2, b2⟩ := alloc_nm W1 (.cells (pinA pinZ) 66)
    clear z2
    replace r_t := keepB b2 r_t
    replace HS := hide (HS.out.below b2)
    replace HB := hide (HB.out.trans (b2.mono HB.out.size))
    clear b2
    go_enter Try.func30, Try.ntmps30
    go_upto_region 3 with (fail)
    have R_t : ∀ q : BW W2, q.w.heap[w.heap.size]? = some (.cells (tupA t) 63 (0, 0)) := fun q => q.block r_t
    have R_r : ∀ q : BW W2, q.w.heap[W1.heap.size]? = some (.cells (pinA pinZ) 66 (0, 0)) := fun q => q.block r_r
    first | refine wp_region_belowS W2 (Below.refl _ _) ?_ | refine wp_region_below W2 (Below.refl _ _) (by kernel_rfl) (by kernel_rfl) ?_
    (try simp only [List.append_eq, List.cons_append, List.nil_append])
    repeat
      first
      | (go_big_quiet_step (first
        | (go_at_call 49; with_reducible exact Calls.bel (KR.out _))
        | (go_at_call 50; with_reducible exact Calls.bel_same (KZ.out _))
        | fail))
      | (go_big_quiet_want; apply quiet_span; (intro p; go_simp; rfl); (try simp only [Act.put, List.setIfInBounds_toArray, List.set_cons_zero, List.set_cons_succ]); go_big_quiet_on)
    refine wpQuiet_nil ?_
    intro _ hw'
    obtain ⟨pq3, hw''⟩ := hw'
    subst hw''
    clear R_t
    clear R_r
    obtain ⟨W3, b3⟩ := pq3
    dsimp only
    replace r_t := keepB b3 r_t
    replace r_r := keepB b3 r_r
    replace HS := hide (HS.out.below b3)
    replace HB := hide (HB.out.trans (b3.mono HB.out.size))
    clear b3
    have HRr := hide r_r
    go_wp2
    refine bodyPost_ret (results_cell_tmp (fn := Try.f30) Try.results30 _ _ W1.heap.size 66 (pinA pinZ) (0, 0) _ rfl (setRow_heap _ _ _ _ _ _ HRr.out) Try.underlying66 rfl (HIP.out _)) rfl ?_
    exact ⟨by rw [HV.out]; rfl, by rw [HV.out]; exact HS.out.setOther (by have := HLT.out; have := N_r.out; omega), Tou.setOther (Tou.of_below HB.out) (by have := N_r.out; omega) _⟩
  have HE2 := hide (by have := HE.out; rw [if_neg (by simp)] at this; exact this)
  clear HE
  cases hgs : G.isSome
  · have HV : Hid (E = ((pinZ, 20), (l, u))) := hide (by rw [HE2.out, if_pos hgs])
    clear HE2
    rw [hgs] at KG2
    have HB := hide (Below.refl w.heap.size w)
    obtain ⟨W1, hW1, r_t, z1, b1⟩ := alloc_nm w (.cells (tupA t) 63)
    clear z1
    replace HS := hide (HS.out.below b1)
    replace HB := hide (HB.out.trans (b1.mono HB.out.size))
    clear b1
    have N_r := hide HB.out.size
    obtain ⟨W2, hW2, r_r, z2, b2⟩ := alloc_nm W1 (.cells (pinA pinZ) 66)
    clear z2
    replace r_t := keepB b2 r_t
    replace HS := hide (HS.out.below b2)
    replace HB := hide (HB.out.trans (b2.mono HB.out.size))
    clear b2
    go_enter Try.func30, Try.ntmps30
    go_upto_region 3 with (fail)
    have R_t : ∀ q : BW W2, q.w.heap[w.heap.size]? = some (.cells (tupA t) 63 (0, 0)) := fun q => q.block r_t
    have R_r : ∀ q : BW W2, q.w.heap[W1.heap.size]? = some (.cells (pinA pinZ) 66 (0, 0)) := fun q => q.block r_r
    first | refine wp_region_belowS W2 (Below.refl _ _) ?_ | refine wp_region_below W2 (Below.refl _ _) (by kernel_rfl) (by kernel_rfl) ?_
    (try simp only [List.append_eq, List.cons_append, List.nil_append])
    repeat
      first
      | (go_big_quiet_step (first
        | (go_at_call 49; with_reducible exact Calls.bel (KR.out _))
        | (go_at_call 50; with_reducible exact Calls.bel_same (KZ.out _))
        | fail))
      | (go_big_quiet_want; apply quiet_span; (intro p; go_simp; rfl); (try simp only [Act.put, List.setIfInBounds_toArray, List.set_cons_zero, List.set_cons_succ]); go_big_quiet_on)
    refine wpQuiet_nil ?_
    intro _ hw'
    obtain ⟨pq3, hw''⟩ := hw'
    subst hw''
    clear R_t
    clear R_r
    obtain ⟨W3, b3⟩ := pq3
    dsimp only
    replace r_t := keepB b3 r_t
    replace r_r := keepB b3 r_r
    replace HS := hide (HS.out.below b3)
    replace HB := hide (HB.out.trans (b3.mono HB.out.size))
    clear b3
    go_wp2_with fail
    go_at_call 52
    with_reducible refine (KG2.out _ HS.out).mono ?_
    rintro e W4 ⟨rfl, b4⟩
    replace r_t := keepB b4 r_t
    replace r_r := keepB b4 r_r
    replace HS := hide (HS.out.below b4)
    replace HB := hide (HB.out.trans (b4.mono HB.out.size))
    clear b4
    dsimp only
    have N_l := hide HB.out.size
    obtain ⟨W5, hW5, r_l, z5, b5⟩ := alloc_nm W4 (.cells (pinA (pinO G)) 66)
    clear z5
    replace r_t := keepB b5 r_t
    replace r_r := keepB b5 r_r
    replace HS := hide (HS.out.below b5)
    replace HB := hide (HB.out.trans (b5.mono HB.out.size))
    clear b5
    have HRr := hide r_r
    go_wp2
    refine bodyPost_ret (results_cell_tmp (fn := Try.f30) Try.results30 _ _ W1.heap.size 66 (pinA pinZ) (0, 0) _ rfl (setRow_heap _ _ _ _ _ _ HRr.out) Try.underlying66 rfl (HIP.out _)) rfl ?_
    exact ⟨by rw [HV.out]; rfl, by rw [HV.out]; exact HS.out.setOther (by have := HLT.out; have := N_r.out; omega), Tou.setOther (Tou.of_below HB.out) (by have := N_r.out; omega) _⟩
  have HE3 := hide (by have := HE2.out; rw [if_neg (by rw [hgs]; simp)] at this; exact this)
  clear HE2
  rw [hgs] at KG2
  by_cases he : ef = 0
  · subst he
    have HV : Hid (E = (({ pinO G with f := ff }, 0), (putP { pinO G with f := ff } l, untP { pinO G with f := ff } z u))) := hide (by rw [HE3.out, if_neg (by simp)])
    clear HE3
    have qx := pin_x ({ pinO G with f := ff } : PinR)
    have qs := pin_size ({ pinO G with f := ff } : PinR)
    have qo := pin_one ({ pinO G with f := ff } : PinR)
    obtain ⟨q', hq'⟩ : ∃ q' : PinR, q' = { pinO G with f := ff } := ⟨_, rfl⟩
    have HST := hide (fun W g hg => pin_store (w := W) (g := g) (pinO G) ff hg)
    rw [← hq'] at HV qx qs qo HST
    clear hq'
    have HB := hide (Below.refl w.heap.size w)
    obtain ⟨W1, hW1, r_t, z1, b1⟩ := alloc_nm w (.cells (tupA t) 63)
    clear z1
    replace HS := hide (HS.out.below b1)
    replace HB := hide (HB.out.trans (b1.mono HB.out.size))
    clear b1
    have N_r := hide HB.out.size
    obtain ⟨W2, hW2, r_r, z2, b2⟩ := alloc_nm W1 (.cells (pinA pinZ) 66)
    clear z2
    replace r_t := keepB b2 r_t
    replace HS := hide (HS.out.below b2)
    replace HB := hide (HB.out.trans (b2.mono HB.out.size))
    clear b2
    go_enter Try.func30, Try.ntmps30
    go_upto_region 3 with (fail)
    have R_t : ∀ q : BW W2, q.w.heap[w.heap.size]? = some (.cells (tupA t) 63 (0, 0)) := fun q => q.block r_t
    have R_r : ∀ q : BW W2, q.w.heap[W1.heap.size]? = some (.cells (pinA pinZ) 66 (0, 0)) := fun q => q.block r_r
    first | refine wp_region_belowS W2 (Below.refl _ _) ?_ | refine wp_region_below W2 (Below.refl _ _) (by kernel_rfl) (by kernel_rfl) ?_
    (try simp only [List.append_eq, List.cons_append, List.nil_append])
    repeat
      first
      | (go_big_quiet_step (first
        | (go_at_call 49; with_reducible exact Calls.bel (KR.out _))
        | (go_at_call 50; with_reducible exact Calls.bel_same (KZ.out _))
        | fail))
      | (go_big_quiet_want; apply quiet_span; (intro p; go_simp; rfl); (try simp only [Act.put, List.setIfInBounds_toArray, List.set_cons_zero, List.set_cons_succ]); go_big_quiet_on)
    refine wpQuiet_nil ?_
    intro _ hw'
    obtain ⟨pq3, hw''⟩ := hw'
    subst hw''
    clear R_t
    clear R_r
    obtain ⟨W3, b3⟩ := pq3
    dsimp only
    replace r_t := keepB b3 r_t
    replace r_r := keepB b3 r_r
    replace HS := hide (HS.out.below b3)
    replace HB := hide (HB.out.trans (b3.mono HB.out.size))
    clear b3
    go_wp2_with fail
    go_at_call 52
    with_reducible refine (KG2.out _ HS.out).mono ?_
    rintro e W4 ⟨rfl, b4⟩
    replace r_t := keepB b4 r_t
    replace r_r := keepB b4 r_r
    replace HS := hide (HS.out.below b4)
    replace HB := hide (HB.out.trans (b4.mono HB.out.size))
    clear b4
    dsimp only
    have N_l := hide HB.out.size
    have HNE := hide (Array.getElem?_eq_some_iff.1 r_r).1
    obtain ⟨W5, hW5, r_l, z5, b5⟩ := alloc_nm W4 (.cells (pinA (pinO G)) 66)
    clear z5
    replace r_t := keepB b5 r_t
    replace r_r := keepB b5 r_r
    replace HS := hide (HS.out.below b5)
    replace HB := hide (HB.out.trans (b5.mono HB.out.size))
    clear b5
    go_wp2_with fail
    go_at_call 14
    with_reducible refine (KB.out _).mono ?_
    rintro e W6 ⟨rfl, b6⟩
    replace r_t := keepB b6 r_t
    replace r_r := keepB b6 r_r
    replace r_l := keepB b6 r_l
    replace HS := hide (HS.out.below b6)
    replace HB := hide (HB.out.trans (b6.mono HB.out.size))
    clear b6
    dsimp only
    obtain ⟨W7, hW7, r_f, z7, b7⟩ := alloc_nm W6 (.cells (flA ff) 24)
    clear z7
    replace r_t := keepB b7 r_t
    replace r_r := keepB b7 r_r
    replace r_l := keepB b7 r_l
    replace HS := hide (HS.out.below b7)
    replace HB := hide (HB.out.trans (b7.mono HB.out.size))
    clear b7
    have hst := HST.out W7 _ r_l
    obtain ⟨W8, hW8⟩ : ∃ W, W7.setRow W4.heap.size (pinA q') = W := ⟨_, rfl⟩
    rw [hW8] at hst
    have q_l : W8.heap[W4.heap.size]? = some (.cells (pinA q') 66 (0, 0)) := by rw [← hW8]; exact setRow_heap _ _ _ _ _ _ r_l
    have q_r : W8.heap[W1.heap.size]? = some (.cells (pinA pinZ) 66 (0, 0)) := by rw [← hW8]; exact (setRow_other _ _ _ _ (by have := HNE.out; omega)).trans r_r
    have HS2 : Hid (StoS W8 p bp bu most l u) := hide (by rw [← hW8]; exact HS.out.setOther (by have := HLT.out; have := N_l.out; omega))
    have HTO : Hid (Tou w W8 bp bu) := hide (by rw [← hW8]; exact Tou.setOther (Tou.of_below HB.out) (by have := N_l.out; omega) _)
    have KP := hide (stoPut_any HS2.out q' z)
    go_wp2_with fail
    go_at_call 53
    with_reducible refine KP.out.mono ?_
    rintro e W9 ⟨rfl, hS9, hT9⟩
    have v_r := keepT hT9 (by have := HLT.out; have := N_r.out; omega) (by have := HLT.out; have := N_r.out; omega) q_r
    have v_l := keepT hT9 (by have := HLT.out; have := N_l.out; omega) (by have := HLT.out; have := N_l.out; omega) q_l
    replace HTO := hide (HTO.out.trans hT9)
    replace HS2 := hide hS9
    clear hS9 hT9 KP
    dsimp only
    have HRr := hide v_r
    go_wp2
    refine bodyPost_ret (results_cell_tmp (fn := Try.f30) Try.results30 _ _ W1.heap.size 66 (pinA q') (0, 0) _ rfl (setRow_heap _ _ _ _ _ _ HRr.out) Try.underlying66 rfl (HIP.out _)) rfl ?_
    exact ⟨by rw [HV.out]; rfl, by rw [HV.out]; exact HS2.out.setOther (by have := HLT.out; have := N_r.out; omega), Tou.setOther HTO.out (by have := N_r.out; omega) _⟩
  · have HV : Hid (E = ((pinZ, ef), (l, u))) := hide (by rw [HE3.out, if_pos he])
    have he2 : (ef != 0) = true := by simpa using he
    clear HE3
    have HB := hide (Below.refl w.heap.size w)
    obtain ⟨W1, hW1, r_t, z1, b1⟩ := alloc_nm w (.cells (tupA t) 63)
    clear z1
    replace HS := hide (HS.out.below b1)
    replace HB := hide (HB.out.trans (b1.mono HB.out.size))
    clear b1
    have N_r := hide HB.out.size
    obtain ⟨W2, hW2, r_r, z2, b2⟩ := alloc_nm W1 (.cells (pinA pinZ) 66)
    clear z2
    replace r_t := keepB b2 r_t
    replace HS := hide (HS.out.below b2)
    replace HB := hide (HB.out.trans (b2.mono HB.out.size))
    clear b2
    go_enter Try.func30, Try.ntmps30
    go_upto_region 3 with (fail)
    have R_t : ∀ q : BW W2, q.w.heap[w.heap.size]? = some (.cells (tupA t) 63 (0, 0)) := fun q => q.block r_t
    have R_r : ∀ q : BW W2, q.w.heap[W1.heap.size]? = some (.cells (pinA pinZ) 66 (0, 0)) := fun q => q.block r_r
    first | refine wp_region_belowS W2 (Below.refl _ _) ?_ | refine wp_region_below W2 (Below.refl _ _) (by kernel_rfl) (by kernel_rfl) ?_
    (try simp only [List.append_eq, List.cons_append, List.nil_append])
    repeat
      first
      | (go_big_quiet_step (first
        | (go_at_call 49; with_reducible exact Calls.bel (KR.out _))
        | (go_at_call 50; with_reducible exact Calls.bel_same (KZ.out _))
        | fail))
      | (go_big_quiet_want; apply quiet_span; (intro p; go_simp; rfl); (try simp only [Act.put, List.setIfInBounds_toArray, List.set_cons_zero, List.set_cons_succ]); go_big_quiet_on)
    refine wpQuiet_nil ?_
    intro _ hw'
    obtain ⟨pq3, hw''⟩ := hw'
    subst hw''
    clear R_t
    clear R_r
    obtain ⟨W3, b3⟩ := pq3
    dsimp only
    replace r_t := keepB b3 r_t
    replace r_r := keepB b3 r_r
    replace HS := hide (HS.out.below b3)
    replace HB := hide (HB.out.trans (b3.mono HB.out.size))
    clear b3
    go_wp2_with fail
    go_at_call 52
    with_reducible refine (KG2.out _ HS.out).mono ?_
    rintro e W4 ⟨rfl, b4⟩
    replace r_t := keepB b4 r_t
    replace r_r := keepB b4 r_r
    replace HS := hide (HS.out.below b4)
    replace HB := hide (HB.out.trans (b4.mono HB.out.size))
    clear b4
    dsimp only
    have N_l := hide HB.out.size
    obtain ⟨W5, hW5, r_l, z5, b5⟩ := alloc_nm W4 (.cells (pinA (pinO G)) 66)
    clear z5
    replace r_t := keepB b5 r_t
    replace r_r := keepB b5 r_r
    replace HS := hide (HS.out.below b5)
    replace HB := hide (HB.out.trans (b5.mono HB.out.size))
    clear b5
    go_wp2_with fail
    go_at_call 14
    with_reducible refine (KB.out _).mono ?_
    rintro e W6 ⟨rfl, b6⟩
    replace r_t := keepB b6 r_t
    replace r_r := keepB b6 r_r
    replace r_l := keepB b6 r_l
    replace HS := hide (HS.out.below b6)
    replace HB := hide (HB.out.trans (b6.mono HB.out.size))
    clear b6
    dsimp only
    obtain ⟨W7, hW7, r_f, z7, b7⟩ := alloc_nm W6 (.cells (flA ff) 24)
    clear z7
    replace r_t := keepB b7 r_t
    replace r_r := keepB b7 r_r
    replace r_l := keepB b7 r_l
    replace HS := hide (HS.out.below b7)
    replace HB := hide (HB.out.trans (b7.mono HB.out.size))
    clear b7
    have HRr := hide r_r
    go_wp2
    refine bodyPost_ret (results_cell_tmp (fn := Try.f30) Try.results30 _ _ W1.heap.size 66 (pinA pinZ) (0, 0) _ rfl (setRow_heap _ _ _ _ _ _ HRr.out) Try.underlying66 rfl (HIP.out _)) rfl ?_
    exact ⟨by rw [HV.out]; rfl, by rw [HV.out]; exact HS.out.setOther (by have := HLT.out; have := N_r.out; omega), Tou.setOther (Tou.of_below HB.out) (by have := N_r.out; omega) _⟩
end Go.Proofs.Ytbkipfmnbfjkcaa
