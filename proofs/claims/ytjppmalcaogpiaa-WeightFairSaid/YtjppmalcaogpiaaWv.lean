import Derived.Test.YtjppmalcaogpiaaWy
import Derived.StillTailTactics
namespace Go.Proofs.Ytjppmalcaogpiaa
open Go.RowKit
set_option maxRecDepth 100000
attribute [local go_sem] ord_none_lt ord_none_gt ord_none_eq ord_none_ne ord_lt_lt ord_lt_gt ord_lt_eq ord_lt_ne ord_gt_lt ord_gt_gt ord_gt_eq ord_gt_ne ord_eq_lt ord_eq_gt ord_eq_eq ord_eq_ne store_fl unary_negF
/-- what the rows hold behind k steps (the document's). -/
structure TR (w wr : World) (gd m : Nat) (vt : Value) (ps : List Nat) (k : Nat) : Prop where
  bel : Below w.heap.size w wr
  debts : OwnR wr w.heap.size 22 (.slice (some ⟨gd, 0, none⟩) m m) ((stT ps k).1.map flV)
  turns : OwnR wr w.heap.size 3 vt ((stT ps k).2.map inV)

theorem TR.drew {w wr : World} {gd m : Nat} {vt : Value} {ps : List Nat} {k : Nat} (h : TR w wr gd m vt ps k) : TR w wr.drew gd m vt ps k := ⟨h.bel.drew, h.debts, h.turns⟩
theorem TR.stored {w wr : World} {gd m : Nat} {vt : Value} {ps xs : List Nat} {k i : Nat} {u : Value} (hb : Below w.heap.size w wr) (hd : OwnR wr w.heap.size 22 (.slice (some ⟨gd, 0, none⟩) m m) (xs.map flV))
    (ht : OwnR wr w.heap.size 3 vt ((stT ps k).2.map inV)) :
    Below w.heap.size w (wr.setCell ⟨gd, i, none⟩ u) ∧ OwnR (wr.setCell ⟨gd, i, none⟩ u) w.heap.size 22 (.slice (some ⟨gd, 0, none⟩) m m) ((xs.map flV).set i u) ∧
      OwnR (wr.setCell ⟨gd, i, none⟩ u) w.heap.size 3 vt ((stT ps k).2.map inV) := by
  obtain ⟨s1, s2⟩ := hd.set i u
  have hg := hd.at gd rfl
  exact ⟨hb.setCell hg.1 u, s1, ht.kept s2 (ht.ne hd (by decide))⟩
theorem TR.skip {w wr : World} {gd m : Nat} {vt : Value} {ps : List Nat} {k d p : Nat} (h : TR w wr gd m vt ps k) (hd : d = (stT ps k).1.getD (k % ps.length) 0) (hp : p = ps.getD (k % ps.length) 0) (hlt : addF d p < fOne) :
    TR w (wr.setCell ⟨gd, k % ps.length, none⟩ (.float .f64 (addF d p))) gd m vt ps (k + 1) := by
  have hc : comes d p = false := decide_eq_false (by omega)
  obtain ⟨h1, h2, h3⟩ := TR.stored (i := k % ps.length) (u := .float .f64 (addF d p)) h.bel h.debts h.turns
  have e : stT ps (k + 1) = ((stT ps k).1.set (k % ps.length) (addF d p), (stT ps k).2) := by
    simp only [stT, ← hd, ← hp, hc]; unfold nextD; rw [if_pos hlt]; rfl
  refine ⟨h1, ?_, ?_⟩
  · rw [e]; simp only [List.map_set]; exact h2
  · rw [e]; exact h3
theorem TR.came {w wr V V3 w3 : World} {gd m : Nat} {vt vt' : Value} {ps : List Nat} {k d p : Nat} (h : TR w wr gd m vt ps k) (hd : d = (stT ps k).1.getD (k % ps.length) 0) (hp : p = ps.getD (k % ps.length) 0) (hge : fOne ≤ addF d p)
    (hV : V.heap = ((wr.setCell ⟨gd, k % ps.length, none⟩ (.float .f64 (addF d p))).setCell ⟨gd, k % ps.length, none⟩ (.float .f64 (subF (addF d p)))).heap ∧ V.os = wr.os ∧ V.tape = wr.tape ∧ V.output = wr.output)
    (o : Obj) (hV3 : V3 = V.alloc o)
    (hown : w3.ownsRow w.heap.size 3 1 vt' ((stT ps k).2.length + 1) ((stT ps k).2.map inV ++ [inV (k % ps.length)]))
    (hg : V3.grownBy w3 vt.ownBlock) : TR w w3 gd m vt' ps (k + 1) := by
  subst hV3
  have hc : comes d p = true := decide_eq_true hge
  obtain ⟨a1, a2, a3⟩ := TR.stored (i := k % ps.length) (u := .float .f64 (addF d p)) h.bel h.debts h.turns
  have e0 : ((stT ps k).1.map flV).set (k % ps.length) (.float .f64 (addF d p)) = ((stT ps k).1.set (k % ps.length) (addF d p)).map flV := by rw [List.map_set]; rfl
  rw [e0] at a2
  obtain ⟨b1, b2, b3⟩ := TR.stored (i := k % ps.length) (u := .float .f64 (subF (addF d p))) a1 a2 a3
  have e1 : (((stT ps k).1.set (k % ps.length) (addF d p)).map flV).set (k % ps.length) (.float .f64 (subF (addF d p))) = (((stT ps k).1.set (k % ps.length) (subF (addF d p)))).map flV := by
    rw [List.map_set, List.set_set, List.map_set]; rfl
  rw [e1] at b2
  generalize hX : ((wr.setCell ⟨gd, k % ps.length, none⟩ (.float .f64 (addF d p))).setCell ⟨gd, k % ps.length, none⟩ (.float .f64 (subF (addF d p)))) = X at *
  have hXo : X.os = wr.os ∧ X.tape = wr.tape ∧ X.output = wr.output := by rw [← hX]; exact ⟨rfl, rfl, rfl⟩
  have c1 : Below w.heap.size w V := ⟨hV.2.1.trans (hXo.1.symm.trans b1.os), hV.2.2.1.trans (hXo.2.1.symm.trans b1.tape), hV.2.2.2.trans (hXo.2.2.symm.trans b1.output), by rw [hV.1]; exact b1.size, by rw [hV.1]; exact b1.block⟩
  have c2 : OwnR V w.heap.size 22 (.slice (some ⟨gd, 0, none⟩) m m) (((stT ps k).1.set (k % ps.length) (subF (addF d p))).map flV) := by
    unfold OwnR World.ownsRow at *; rw [hV.1]; exact b2
  have c3 : OwnR V w.heap.size 3 vt ((stT ps k).2.map inV) := by
    unfold OwnR World.ownsRow at *; rw [hV.1]; exact b3
  have hsV : w.heap.size ≤ V.heap.size := c1.size
  have e : stT ps (k + 1) = ((stT ps k).1.set (k % ps.length) (subF (addF d p)), (stT ps k).2 ++ [k % ps.length]) := by
    simp only [stT, ← hd, ← hp, hc]; unfold nextD; rw [if_neg (by omega)]; rfl
  refine ⟨?_, ?_, ?_⟩
  · exact below_grown (c1.alloc hsV _) (c3.alloc _) hg (Nat.le_refl _) (by simp; omega)
  · rw [e]; exact (c2.alloc _).kept hg ((c2.alloc o).ne (c3.alloc o) (by decide))
  · rw [e]; unfold OwnR; simp only [List.map_append, List.map_cons, List.map_nil, List.length_append, List.length_map, List.length_singleton]; exact hown
theorem TR.start {w wx : World} {gd m : Nat} {ps : List Nat} (hm : m = ps.length) (hb : Below w.heap.size w wx) (hd : OwnR wx w.heap.size 22 (.slice (some ⟨gd, 0, none⟩) m m) (List.replicate m (.float .f64 0))) : TR w wx gd m (.slice none 0 0) ps 0 := by
  refine ⟨hb, ?_, OwnR.nil _ _ _⟩
  have e : ((stT ps 0).1.map flV) = List.replicate m (.float .f64 0) := by simp [stT, flV, hm]
  rw [e]; exact hd
/-- what a step reads. -/
theorem TR.reads {w wr : World} {gd m k i : Nat} {vt : Value} {ps : List Nat} (h : TR w wr gd m vt ps k) (hm : m = ps.length) (hi : i < m) (hp : ∀ x ∈ ps, x ≤ fOne) :
    ∃ d, wr.cell? ⟨gd, i, none⟩ = some (.float .f64 d) ∧ wr.frozen? ⟨gd, i, none⟩ = false ∧ d ≤ fOne ∧ d = (stT ps k).1.getD i 0 := by
  refine ⟨_, ?_, h.debts.frozen i, getD_le (stT_le hp k) i, rfl⟩
  rw [h.debts.cell i (by rw [List.length_map, stT_len]; omega), map_flV]
theorem partsL_at {l : List Nat} {j : Nat} (h : j < l.length) : (partsL l).getD j 0 = prtF l[j] (bestF l) := by
  rw [List.getD_eq_getElem?_getD, List.getElem?_eq_getElem (by rw [partsL_len]; exact h)]; simp [partsL]

set_option maxHeartbeats 4000000 in
theorem refturns_any (A : Option Addr) (c : Nat) (l : List Nat) (n : Int) (B : Nat) (w : World) (hl : l.length ≤ 140737488355328) (hn63 : -9223372036854775808 ≤ n ∧ n ≤ 9223372036854775807) (hB : B ≤ w.heap.size) (hb : FlS w B A l) :
    Calls Try.prog 26 #[.slice A l.length c, .int .i64 n] w (TurnsPost w (turnsF l n)) := by
  obtain ⟨m, hm⟩ : ∃ m, m = l.length := ⟨_, rfl⟩
  have HNil : Hid ((n < 1 ∨ 4096 < n ∨ 32 < m ∨ bestF l = 0) → TurnsPost w (turnsF l n) (.returned (.slice none 0 0)) w) := by
    refine hide fun h => ?_
    rw [hm] at h
    rw [turnsF_nil h]; exact ⟨_, rfl, OwnR.nil _ _ _, Below.refl _ _⟩
  have CB := hide (fun w' (h : FlS w' B A l) => refbest_any A c l B w' hl h)
  rw [← hm] at CB hl ⊢
  have HF := hide hb
  have hlen := hide hm
  clear hm hb
  by_cases h1 : n < 1
  · have H := hide (HNil.out (.inl h1))
    clear HNil CB
    go_enter Try.func26, Try.ntmps26
    go_wp2
    go_ret
    exact H.out
  · by_cases h2 : 4096 < n
    · have H := hide (HNil.out (.inr (.inl h2)))
      clear HNil CB
      go_enter Try.func26, Try.ntmps26
      go_wp2
      go_ret
      exact H.out
    · by_cases h3 : 32 < m
      · have H := hide (HNil.out (.inr (.inr (.inl h3))))
        have h3' : (32 : Int) < (m : Int) := by omega
        clear HNil CB
        go_enter Try.func26, Try.ntmps26
        go_wp2
        go_ret
        exact H.out
      · by_cases h4 : bestF l = 0
        · have H := hide (HNil.out (.inr (.inr (.inr h4))))
          rw [h4] at CB
          have ho : FloatKind.f64.format.order 0 0 = some .eq := by decide
          have h3' : ¬ (32 : Int) < (m : Int) := by omega
          clear HNil h4
          go_enter Try.func26, Try.ntmps26
          go_wp2_with (first | ((with_reducible refine (CB.out _ HF.out).mono ?_); rintro e w1 ⟨rfl, rfl⟩) | fail)
          go_ret
          exact H.out
        · obtain ⟨b, hbst⟩ : ∃ b, b = bestF l := ⟨_, rfl⟩
          have ho : FloatKind.f64.format.order b 0 = some .gt := order_gt (by rw [hbst]; exact Nat.le_of_lt (bestF_lt l)) (by omega)
          have hb64 : b < 2 ^ 64 := by rw [hbst]; exact lt64 (bestF_lt l)
          have hm32 : m ≤ 32 := by omega
          have h3' : ¬ (32 : Int) < (m : Int) := by omega
          obtain ⟨j, hj, hjp⟩ := best_part h4
          obtain ⟨N, rfl⟩ : ∃ N : Nat, n = (N : Int) := ⟨n.toNat, by omega⟩
          have HT : Hid (turnsF l (N : Int) = turnsP (partsL l) N) := by
            refine hide ?_
            unfold turnsF; rw [if_neg (by have := hlen.out; omega)]; rfl
          obtain ⟨ps, hps⟩ : ∃ ps, ps = partsL l := ⟨_, rfl⟩
          have HPS := hide hps
          have hml : Hid (m = ps.length) := by refine hide ?_; rw [hps, partsL_len]; exact hlen.out
          have HPle : Hid (∀ x ∈ ps, x ≤ fOne) := by rw [hps]; exact partsL_le l
          rw [← hps] at hj hjp HT
          have HBST := hide hbst
          have HB64 := hide hb64
          rw [← hbst] at CB
          have HJ := hide hj
          have HJP := hide hjp
          obtain ⟨i0, hi, hz0, hz1, hz2⟩ := info_parts info_fl
          have hmk : (Instr.makeSlice 28 (.int .i64 (m : Int)) (.int .i64 (m : Int))).run Try.prog w = .ok (.slice (some ⟨w.heap.size, 0, none⟩) m m) (w.alloc (.cells (madeCells #[.float .f64 0] m) 22)) := by
            have h := run_make (P := Try.prog) w 28 22 i0 _ Try.underlying28 hi hz0 .i64 .i64 m m (by omega) (by omega) (by rw [hz2]; omega) (by omega)
            simp only [Int.toNat_natCast, hz1, Nat.mul_one] at h
            exact h
          have hts : TR w (w.alloc (.cells (madeCells #[.float .f64 0] m) 22)) w.heap.size m (.slice none 0 0) ps 0 := by
            refine TR.start hml.out ((Below.refl _ _).alloc (Nat.le_refl _) _) ?_
            have hl := World.ownsRow_lit (e := 22) (size := 1) (base := w.heap.size) w (madeCells #[Value.float .f64 0] m) m (by omega) (by unfold maxLen; omega) (by rw [size_madeCells]; omega)
            unfold OwnR; rw [List.length_replicate, ← made_fl]; exact hl
          have HTS := hide hts
          clear HNil h4 hbst hj hjp hps hi hz0 hz1 hz2 hl hn63 hts hb64
          go_enter Try.func26, Try.ntmps26
          go_wp2_with (first | ((with_reducible refine (CB.out _ HF.out).mono ?_); rintro e w1 ⟨rfl, rfl⟩) | fail)
          go_loopw [6] (fun vt wr => ∃ k : Nat, Hid (TR w wr w.heap.size m vt ps k) ∧ Hid ((stT ps k).2.length ≤ N) ∧ Hid ((stT ps k).2.length < N → ∃ r, k = r * m)) (fun vt _ => N - lenV vt)
          case atStart => exact ⟨0, HTS, hide (by simp [stT]), hide (fun _ => ⟨0, by omega⟩)⟩
          case round =>
            obtain ⟨k, hr, hle, hrk⟩ := hrel
            obtain ⟨At, ct, hvt, _⟩ := hr.out.turns.shape
            rw [List.length_map] at hvt
            obtain ⟨L0, hL0⟩ : ∃ L, L = (stT ps k).2.length := ⟨_, rfl⟩
            rw [← hL0] at hvt
            subst hvt
            have HL0 := hide hL0
            clear hL0
            by_cases hlt : L0 < N
            · obtain ⟨r, hkr⟩ := hrk.out (by rw [← HL0.out]; exact hlt)
              subst hkr
              go_wp2
              go_loopw [6, 7] (fun vt v wr => ∃ i : Nat, i ≤ m ∧ v = .int .i64 (i : Int) ∧ Hid (TR w wr w.heap.size m vt ps (r * m + i)) ∧ Hid ((stT ps (r * m + i)).2.length ≤ N)) (fun _ v _ => m - (intOf v).toNat)
              case atStart => exact ⟨0, by omega, rfl, hr, hle⟩
              case round =>
                obtain ⟨i, hi, rfl, hts, hlt2⟩ := hrel
                obtain ⟨A2, c2, hv2, _⟩ := hts.out.turns.shape
                rw [List.length_map] at hv2
                obtain ⟨L, hL⟩ : ∃ L, L = (stT ps (r * m + i)).2.length := ⟨_, rfl⟩
                rw [← hL] at hv2
                subst hv2
                have HL := hide hL
                clear hL
                by_cases hgo : i < m ∧ L < N
                · obtain ⟨hlti, hLN⟩ := hgo
                  have hm0 : 0 < m := by omega
                  have hkm : (r * m + i) % ps.length = i := by rw [← hml.out, Nat.mul_comm, Nat.mul_add_mod, Nat.mod_eq_of_lt hlti]
                  obtain ⟨d, hcd, hfd, hdl, hd⟩ := hts.out.reads hml.out hlti HPle.out
                  have hFr : FlS wr B A l := HF.out.below hts.out.bel hB
                  obtain ⟨b2, o2, x, rfl, hb2, hx, hx64, hcx⟩ := hFr.at (j := i) (by have := hlen.out; omega)
                  obtain ⟨p, hp⟩ : ∃ p, prtF x b = p := ⟨_, rfl⟩
                  have hpe : p = ps.getD i 0 := by rw [← hp, HPS.out, partsL_at (by have := hlen.out; omega), hx, HBST.out]
                  have hpl : p ≤ fOne := by rw [← hp]; exact prtF_le x b
                  have K1 : Hid (Calls Try.prog 21 #[.slice (some ⟨b2, o2, none⟩) m c] wr.drew fun e w'' => e = .returned (.float .f64 b) ∧ w'' = wr.drew) := hide ((CB.out wr.drew hFr.drew).mono fun _ _ h => ⟨h.1, h.2.symm⟩)
                  have K2 : Hid (Calls Try.prog 14 #[.float .f64 x, .float .f64 b] wr.drew fun e w'' => e = .returned (.float .f64 (prtF x b)) ∧ w'' = wr.drew) := hide ((refpart_any x b wr.drew hx64 HB64.out).mono fun _ _ h => ⟨h.1, h.2.symm⟩)
                  rw [hp] at K2
                  obtain ⟨ha, ha2⟩ := add_two hdl hpl
                  have hsk := fun h => hts.out.drew.skip (d := d) (p := p) (by rw [hkm]; exact hd) (by rw [hkm]; exact hpe) h
                  have hcm := fun V V3 w3 vt' h hV o hV3 h2 h3 => TR.came (V := V) (V3 := V3) (w3 := w3) (vt' := vt') hts.out.drew (d := d) (p := p) (by rw [hkm]; exact hd) (by rw [hkm]; exact hpe) h hV o hV3 h2 h3
                  rw [hkm] at hsk hcm
                  obtain ⟨a, hae⟩ : ∃ a, a = addF d p := ⟨_, rfl⟩
                  rw [← hae] at ha ha2 hsk hcm
                  have hqa := fun W => run_fl (P := Try.prog) .add 22 ha W
                  have hcd' : wr.drew.cell? ⟨w.heap.size, i, none⟩ = some (.float .f64 d) := hcd
                  have hcx' : wr.drew.cell? ⟨b2, o2 + i, none⟩ = some (.float .f64 x) := hcx
                  have hfd' : wr.drew.frozen? ⟨w.heap.size, i, none⟩ = false := hfd
                  have hii : (i : Int) < (m : Int) := by omega
                  have hCo : comes d p = decide (fOne ≤ a) := by rw [hae]; rfl
                  have HCo := hide hCo
                  have HD := hide hd
                  have HP := hide hpe
                  have HSK := hide hsk
                  have HCM := hide hcm
                  clear hsk hcm hd hpe ha hdl hpl hp hx hx64 hb2 hFr hcd hcx hfd hCo hae
                  go_wp2_with fail
                  refine wp_region_still_tail 15 (by kernel_rfl) (by kernel_rfl) ?_
                  simp only [List.take_succ_cons, List.take_zero, List.drop_succ_cons, List.drop_zero]
                  change wpStill _ _ wr.drew _ _ _
                  repeat (first | still_step | (still_call K1.out) | (still_call K2.out))
                  refine wpStill_nil ?_
                  change wpList _ _ _ _ _ wr.drew
                  have htd := hide hts.out.drew
                  generalize wr.drew = W at HSK HCM hcd' hfd' htd K1 K2 hcx' ⊢
                  clear hcx' K1 K2
                  by_cases hlt3 : a < fOne
                  · have ho3 : (FloatKind.f64.format.order a 4607182418800017408 == some .gt || FloatKind.f64.format.order a 4607182418800017408 == some .eq) = false := by
                      rw [show FloatKind.f64.format.order a 4607182418800017408 = some .lt from order_lt (y := fOne) (Nat.le_of_lt one_lt) hlt3]; rfl
                    have ho4 : FloatKind.f64.format.order a 4607182418800017408 = some .lt := order_lt (y := fOne) (Nat.le_of_lt one_lt) hlt3
                    have HN := hide (HSK.out hlt3)
                    have HN2 : Hid ((stT ps (r * m + i + 1)).2.length ≤ N) := by
                      refine hide ?_
                      have e : (stT ps (r * m + i + 1)).2 = (stT ps (r * m + i)).2 := by
                        have hc : comes d p = false := by rw [HCo.out]; exact decide_eq_false (by omega)
                        simp only [stT, hkm]; rw [← HD.out, ← HP.out, hc]; rfl
                      rw [e]; exact hlt2.out
                    clear HSK HCM hlt3 hts hlt2 ha2 hkm ho3 htd
                    go_wp2
                    go_roundw
                    case rel => exact ⟨i + 1, by omega, by go_num, HN, HN2⟩
                    case measure => simp [intOf]; omega
                  · have ho4 : FloatKind.f64.format.order a 4607182418800017408 = some .gt ∨ FloatKind.f64.format.order a 4607182418800017408 = some .eq := by
                      have h2 := two_lt
                      exact order_ge (y := fOne) (by omega) (by omega)
                    obtain ⟨hs1, hs2⟩ := sub_one (Nat.le_of_not_lt hlt3) ha2
                    obtain ⟨z, hz⟩ : ∃ z, z = subF a := ⟨_, rfl⟩
                    rw [← hz] at hs1
                    have hqs : ∀ W : World, (binOp .sub 22 (.float .f64 a) (.float .f64 4607182418800017408)).run Try.prog W = .ok (.float .f64 z) W := fun W => run_fl (P := Try.prog) .sub 22 hs1 W
                    have HC2 := hide (fun w3 vt' => HCM.out _ _ w3 vt' (Nat.le_of_not_lt hlt3) ⟨rfl, rfl, rfl, rfl⟩ (.cells #[.int .i64 (i : Int)] 3) rfl)
                    rw [← hz] at HC2
                    have HST : Hid ((stT ps (r * m + i + 1)).2 = (stT ps (r * m + i)).2 ++ [i]) := by
                      refine hide ?_
                      have hc : comes d p = true := by rw [HCo.out]; exact decide_eq_true (by omega)
                      simp only [stT, hkm]; rw [← HD.out, ← HP.out, hc]; rfl
                    obtain ⟨i1, hj, hj0, hj1, hj2⟩ := info_parts info_in
                    have HT3 : Hid (∀ u v : Value, ((W.setCell ⟨w.heap.size, i, none⟩ u).setCell ⟨w.heap.size, i, none⟩ v).ownsRow w.heap.size 3 1 (.slice A2 L c2) L ((stT ps (r * m + i)).2.map inV)) := by
                      refine hide fun u v => ?_
                      obtain ⟨a1, a2, a3⟩ := TR.stored (i := i) (u := u) htd.out.bel htd.out.debts htd.out.turns
                      have s2 := a2.set i v
                      have h4 := a3.kept s2.2 (a3.ne a2 (by decide))
                      unfold OwnR at h4
                      rw [List.length_map, ← HL.out] at h4
                      exact h4
                    have hsz := htd.out.bel.size
                    have HSZ := hide hsz
                    clear hs1 hs2 hz hts ha2 hkm HCM HSK hlt3 hsz htd
                    rcases ho4 with ho4 | ho4
                    all_goals
                      go_wp2_with (first | (at_builtin; refine wpList_append_own _ rfl _ _ 31 rfl w.heap.size 3 i1 (.int .i64 0) 1 8 Try.underlying31 hj hj0 hj1 hj2 rfl (by decide) _ L ((stT ps (r * m + i)).2.map inV) rfl (World.ownsRow.alloc (HT3.out _ _) _) ⟨W.heap.size, 0, none⟩ 1 1 [inV i] rfl rfl (by intro j u hj; (match j, hj with | 0, hj => simp [inV] at hj; subst hj; exact box_cell W _ _ _ _ _ _)) (by intro u hu; simp [inV] at hu; subst hu; rfl) (by unfold maxLen; omega) (by omega) (by have h1 := HSZ.out; simp; omega) ?_) | fail)
                      intro v' w3 hown' hgrow _
                      have HN : Hid (TR w w3 w.heap.size m v' ps (r * m + i + 1)) := by
                        refine hide (HC2.out w3 v' ?_ hgrow)
                        rw [← HL.out]; exact hown'
                      have HN2 : Hid ((stT ps (r * m + i + 1)).2.length ≤ N) := by refine hide ?_; rw [HST.out, List.length_append, ← HL.out]; simp; omega
                      clear hown' hgrow HC2 HT3
                      go_wp2
                      go_roundw
                      case rel => exact ⟨i + 1, by omega, by go_num, HN, HN2⟩
                      case measure => simp [intOf]; omega
                · -- the inner loop ends
                  have HEND : Hid ((stT ps (r * m + i)).2.length < N → ∃ r', r * m + i = r' * m) := by
                    refine hide fun h => ⟨r + 1, ?_⟩
                    rw [← HL.out] at h
                    have : i = m := by omega
                    subst this; rw [Nat.add_mul, Nat.one_mul]
                  have HMS : Hid (L0 < L) := by
                    refine hide ?_
                    by_cases hLN : L < N
                    · have him : i = m := by omega
                      have e2 := stT_round HJ.out HJP.out r
                      rw [← hml.out, Nat.add_mul, Nat.one_mul] at e2
                      rw [HL0.out, HL.out, him]; exact e2
                    · have := hlt2.out; rw [← HL.out] at this; omega
                  by_cases him : i < m
                  · have hLN : ¬ L < N := fun h => hgo ⟨him, h⟩
                    clear hgo
                    go_wp2
                    go_roundw
                    case rel => exact ⟨r * m + i, hts, hlt2, HEND⟩
                    case measure => simp only [lenV]; have := HMS.out; omega
                  · clear hgo
                    go_wp2
                    go_roundw
                    case rel => exact ⟨r * m + i, hts, hlt2, HEND⟩
                    case measure => simp only [lenV]; have := HMS.out; omega
            · have hLN : L0 = N := by have := hle.out; rw [← HL0.out] at this; omega
              have HFIN : Hid (TurnsPost w (turnsF l (N : Int)) (.returned (.slice At L0 ct)) wr) := by
                refine hide ?_
                rw [HT.out, turnsP_at HJ.out HJP.out (k := k) (by rw [← HL0.out]; exact hLN)]
                exact ⟨_, rfl, hr.out.turns, hr.out.bel⟩
              have hLN2 : ¬ (L0 < N) := hlt
              clear hLN hlt
              go_wp2
              go_ret
              exact HFIN.out
end Go.Proofs.Ytjppmalcaogpiaa
