/-
  The walk of geneve.Parse.
-/
import Derived.Test.YtdmlgogjipcggaaGnj
namespace Go.Proofs.Ytdmlgogjipcggaa
open Go.RowKit
set_option maxRecDepth 100000
set_option linter.unusedVariables false
set_option linter.unusedSimpArgs false
attribute [local go_sem ↓] exec_span exec_put exec_build heap_alloc_new heap_old
attribute [local go_sem] spanQ_ptr spanC_some heap_of_drew heap_of_drewN putAt_ptr putOk_ptr oldOk_some World.setRow_alloc_new rs_tunG rs_rtunG rs_optG rs_roptG

theorem built_tun0 : Try.prog.built 28 [] = some (tunA false 0 0 none 0 0 none 0 0) := by kernel_rfl
theorem built_tun5 (o : Bool) (p v : Int) (A : Option Addr) (n c : Nat) (I : Option Addr) (m k : Nat) : Try.prog.built 28 [(0, .bool o), (1, .int .i64 p), (2, .int .i64 v), (3, .slice A n c), (4, .slice I m k)] = some (tunA o p v A n c I m k) := by kernel_rfl
theorem tuG_zero (w : World) : TuG w (tunA false 0 0 none 0 0 none 0 0) zT := ⟨none, 0, [], none, 0, rfl, rfl, fun h => by simp at h, OgB.nil _ _, Nat.le_refl _, Byt.nil _ _ _, fun _ => rfl, Nat.le_refl _⟩
theorem RdG.grown {w w' : World} {B : Nat} {A : Option Addr} {l : List OpG} {g : Nat} (h : RdG w B A l) (hg : w.grownBy w' (some g)) (hne : ∀ a, A = some a → a.block ≠ g) : RdG w' B A l := fun h0 => by
  obtain ⟨b, off, e, hlt, hc⟩ := h h0
  have hb : some b ≠ some g := fun e2 => hne _ e (Option.some.inj e2)
  exact ⟨b, off, e, hlt, fun i hi => ⟨hg.cell (hc i hi).1 hb, hg.cell (hc i hi).2.1 hb, hg.cell (hc i hi).2.2 hb⟩⟩
theorem OgB.grown {w w' : World} {B : Nat} {l : List OpG} {g : Nat} (h : OgB w B l) (hg : w.grownBy w' (some g)) (hne : ∀ x ∈ l, 0 < x.d.length → ∀ a, x.a = some a → a.block ≠ g) : OgB w' B l := fun x hx =>
  ⟨(h x hx).1.grown hg (fun hp a e e2 => hne x hx hp a e (Option.some.inj e2).symm), (h x hx).2⟩
/-- what Parse hands back. -/
def PaR (w : World) (R : TuD × Int) (e : Ending) (w' : World) : Prop := ∃ Y, e = .returned (.tuple #[.agg Y, .int .i64 R.2]) ∧ TuG w' Y R.1 ∧ Below w.heap.size w w'
theorem paR_err {w w' : World} {R : TuD × Int} {E : Int} {Z : Array Value} (hZ : Z = tunA false 0 0 none 0 0 none 0 0) (hR : R = (zT, E)) (hb : Below w.heap.size w w') : PaR w R (.returned (.tuple #[.agg Z, .int .i64 E])) w' := by
  subst hR hZ; exact ⟨_, rfl, tuG_zero _, hb⟩
set_option maxHeartbeats 8000000 in
theorem genParse_any (w : World) (A : Option Addr) (c : Nat) (b : List UInt8) (hb : Byt w w.heap.size A b) (hn : b.length ≤ 140737488355328) :
    Calls Try.prog 13 #[.slice A b.length c] w (PaR w (parD b)) := by
  obtain ⟨R, hR⟩ : ∃ R, R = parD b := ⟨_, rfl⟩
  rw [← hR]
  have HR := hide hR
  have HN := hide hn
  obtain ⟨Z, hZ⟩ : ∃ Z, Z = tunA false 0 0 none 0 0 none 0 0 := ⟨_, rfl⟩
  have hbn := built_tun0
  rw [← hZ] at hbn
  have hZs : Z.size = 5 := by rw [hZ]; rfl
  have hZo : allOne Z = true := by rw [hZ]; exact tunA_one _ _ _ _ _ _ _ _ _
  have HZE := hide hZ
  obtain ⟨W, hW, r0, z0, b0⟩ := alloc_tl w (.cells Z 28)
  have KN := hide (newS W w.heap.size A b c (by omega) (hb.below b0) b0.size)
  have HK := hide (fun (w1 : World) (hb1 : Below W.heap.size W w1) => ((hb1.block w.heap.size (by omega)).trans r0 : w1.heap[w.heap.size]? = some (.cells Z 28 (0, 0))))
  have HB := hide b0
  have HZ := hide z0
  rw [hZ] at hW
  have HW := hide hW
  clear hR hn hb hZ hW r0 z0 b0
  go_enter Try.func13, Try.ntmps13
  go_upto_region 1 with (fail)
  change Code.wp _ _ _ _ (w.alloc (.cells (tunA false 0 0 none 0 0 none 0 0) 28))
  rw [HW.out]
  go_wp2_with fail
  refine KN.out.mono ?_
  rintro e w1 ⟨g, A', c', rfl, hRd, hl', hat, hg, hb1⟩
  have HGW := hide hg
  have HLN : Hid (b.length ≤ 140737488420864) := hide (by have := HN.out; omega)
  have B1 := hide hb1
  have i0 : RdI b 0 0 0 := .inl ⟨rfl, rfl, Nat.zero_le _⟩
  clear KN hb1 hat hg
  dsimp only
  go_wp2_with fail
  refine (numI (g := g) (c := c') (A := A') w1 1 hRd i0 (by decide) (by decide) hl' HLN.out).mono ?_
  rintro e w2 ⟨N1, k1, r1, rfl, hR2, i1, hN1, e1, g2⟩
  have B2 : Hid (Below W.heap.size W w2) := hide (B1.out.grown g2 B1.out.size (fun k e => by cases e; exact HGW.out))
  have E1 := hide e1
  have v1 := wrap_i64q (n := N1) (by omega)
  clear hRd i0 e1 g2
  dsimp only
  go_wp2_with fail
  refine (numI (g := g) (c := c') (A := A') w2 1 hR2 i1 (by decide) (by decide) hl' HLN.out).mono ?_
  rintro e w3 ⟨N2, k2, r2, rfl, hR3, i2, hN2, e2, g3⟩
  have B3 : Hid (Below W.heap.size W w3) := hide (B2.out.grown g3 B2.out.size (fun k e => by cases e; exact HGW.out))
  have E2 := hide e2
  have v2 := wrap_i64q (n := N2) (by omega)
  clear hR2 i1 e2 g3
  dsimp only
  go_wp2_with fail
  refine (numI (g := g) (c := c') (A := A') w3 2 hR3 i2 (by decide) (by decide) hl' HLN.out).mono ?_
  rintro e w4 ⟨N3, k3, r3, rfl, hR4, i3, hN3, e3, g4⟩
  have B4 : Hid (Below W.heap.size W w4) := hide (B3.out.grown g4 B3.out.size (fun k e => by cases e; exact HGW.out))
  have E3 := hide e3
  have v3 := wrap_i64q (n := N3) (by omega)
  clear hR3 i2 e3 g4
  dsimp only
  go_wp2_with fail
  refine (numI (g := g) (c := c') (A := A') w4 3 hR4 i3 (by decide) (by decide) hl' HLN.out).mono ?_
  rintro e w5 ⟨N4, k4, r4, rfl, hR5, i4, hN4, e4, g5⟩
  have B5 : Hid (Below W.heap.size W w5) := hide (B4.out.grown g5 B4.out.size (fun k e => by cases e; exact HGW.out))
  have E4 := hide e4
  have v4 := wrap_i64q (n := N4) (by omega)
  clear hR4 i3 e4 g5
  dsimp only
  go_wp2_with fail
  refine (numI (g := g) (c := c') (A := A') w5 1 hR5 i4 (by decide) (by decide) hl' HLN.out).mono ?_
  rintro e w6 ⟨N5, k5, r5, rfl, hR6, i5, hN5, e5, g6⟩
  have B6 : Hid (Below W.heap.size W w6) := hide (B5.out.grown g6 B5.out.size (fun k e => by cases e; exact HGW.out))
  have E5 := hide e5
  have v5 := wrap_i64q (n := N5) (by omega)
  have HRD := hide hR6
  have HI5 := hide i5
  clear hR5 i4 e5 g6 hR6 i5
  have rz6 := HK.out w6 B6.out
  have KE := hide (err_any w6 g A' b.length c' k5 r5 HRD.out.rd)
  dsimp only
  go_wp2_with fail
  refine KE.out.mono ?_
  rintro e w7 ⟨rfl, rfl⟩
  dsimp only
  by_cases hr5 : r5 = 0
  · subst hr5
    have h8 : k5 = 8 ∧ 8 ≤ b.length := by
      rcases HI5.out with ⟨-, h1, h2⟩ | ⟨h1, -⟩
      · exact ⟨by omega, by omega⟩
      · cases h1
    obtain ⟨rfl, h8l⟩ := h8
    have q1 : N1 = atN b 0 1 := E1.out (by omega)
    have q2 : N2 = atN b 1 1 := E2.out (by omega)
    have q3 : N3 = atN b 2 2 := E3.out (by omega)
    have q4 : N4 = atN b 4 3 := E4.out (by omega)
    have q5 : N5 = atN b 7 1 := E5.out (by omega)
    have hRR := HR.out
    unfold parD at hRR
    rw [if_neg (by omega), ← q1, ← q2, ← q3, ← q4, ← q5] at hRR
    have HRR := hide hRR
    have H8 := hide h8l
    clear hRR q1 q2 q3 q4 q5 h8l
    by_cases h64 : 64 ≤ N1
    · have f1 : ((N1 : Int) / 64 != 0) = true := by simp; omega
      have HE := hide (show R = (zT, 13) by rw [HRR.out, if_pos h64])
      clear h64
      go_wp2_with fail
      refine bodyPost_ret (results_cell_tmp (fn := Try.f13) Try.results13 _ _ w.heap.size 28 Z (0, 0) _ rfl (setRow_heap w6 w.heap.size Z Z _ _ rz6) Try.underlying28 rfl (by rw [hZs]; exact info_tunG)) rfl ?_
      exact paR_err HZE.out HE.out (below_setRow (HB.out.trans (B6.out.mono HB.out.size)) (Nat.le_refl _) _)
    · have f1 : ((N1 : Int) / 64 != 0) = false := by
        have : (N1 : Int) / 64 = 0 := by omega
        rw [this]; rfl
      have a63 := and63 (N := N2) (by omega)
      by_cases hbad : N2 % 64 ≠ 0 ∨ N5 ≠ 0
      · have HE := hide (show R = (zT, 11) by rw [HRR.out, if_neg h64, if_pos hbad])
        have hcase : (((N2 % 64 : Nat) : Int) != 0) = true ∨ ((((N2 % 64 : Nat) : Int) != 0) = false ∧ ((N5 : Int) != 0) = true) := by
          rcases Nat.eq_zero_or_pos (N2 % 64) with h | h
          · rw [h]; exact .inr ⟨rfl, by rcases hbad with h2 | h2 <;> simp <;> omega⟩
          · exact .inl (by simp; omega)
        obtain ⟨p64, hp64⟩ : ∃ p, p = ((N2 % 64 : Nat) : Int) := ⟨_, rfl⟩
        rw [← hp64] at a63 hcase
        clear h64 hbad hp64
        rcases hcase with f2 | ⟨f2, f3⟩
        all_goals (
          go_wp2_with fail
          refine bodyPost_ret (results_cell_tmp (fn := Try.f13) Try.results13 _ _ w.heap.size 28 Z (0, 0) _ rfl (setRow_heap w6 w.heap.size Z Z _ _ rz6) Try.underlying28 rfl (by rw [hZs]; exact info_tunG)) rfl ?_
          exact paR_err HZE.out HE.out (below_setRow (HB.out.trans (B6.out.mono HB.out.size)) (Nat.le_refl _) _))
      · have hz2 : N2 % 64 = 0 ∧ N5 = 0 := by omega
        rw [hz2.1] at a63
        have a63' : bits BinOp.and IntKind.i64 (N2 : Int) 63 = 0 := a63
        obtain ⟨hz2a, rfl⟩ := hz2
        have b63 := and63 (N := N1) (by omega)
        rw [Nat.mod_eq_of_lt (by omega)] at b63
        have wm : IntKind.i64.wrap (4 * (N1 : Int)) = ((4 * N1 : Nat) : Int) := by rw [IntKind.wrap_i64]; omega
        have hRR := HRR.out
        rw [if_neg h64, if_neg hbad] at hRR
        have HRR2 := hide hRR
        have H64 : Hid (N1 < 64) := hide (by omega)
        have HI8 : Hid (RdI b 8 8 0) := hide (by have := HI5.out; simpa using this)
        clear hRR hbad h64 a63 HRR HI5 hz2a
        go_wp2_with fail
        first | rw [wm] | skip
        refine (takeI (g := g) (c := c') (A := A') w6 (4 * N1) HRD.out HI8.out hl' HLN.out).mono ?_
        rintro e w8 ⟨d, Ad, cd, k7, r7, rfl, hbd, hcd, hnd, had, hR7, i7, hdl, e7, g7⟩
        have B8 : Hid (Below W.heap.size W w8) := hide (B6.out.grown g7 B6.out.size (fun k e => by cases e; exact HGW.out))
        have rz8 := HK.out w8 B8.out
        have HRD8 := hide hR7
        have HI7 := hide i7
        have HD := hide (And.intro hbd (And.intro hcd (And.intro hdl e7)))
        have KE8 := hide (err_any w8 g A' b.length c' k7 r7 HRD8.out.rd)
        obtain ⟨nd, hnd'⟩ : ∃ n, n = d.length := ⟨_, rfl⟩
        rw [← hnd']
        have HND := hide hnd'
        clear hbd hcd hnd had hR7 i7 hdl e7 g7 rz6 KE wm hnd' HRD HI8 a63' b63
        dsimp only
        go_wp2_with fail
        refine KE8.out.mono ?_
        rintro e w9 ⟨rfl, rfl⟩
        dsimp only
        by_cases hr7 : r7 = 0
        · subst hr7
          have hk7 : k7 = 8 + 4 * N1 ∧ 8 + 4 * N1 ≤ b.length := by
            rcases HI7.out with ⟨-, h1, h2⟩ | ⟨h1, -⟩
            · exact ⟨h1, h2⟩
            · cases h1
          have hd := HD.out.2.2.2 hk7.2
          have hdl : d.length = 4 * N1 := by rw [hd]; simp; omega
          have hRR := HRR2.out
          rw [if_neg (by omega), ← hd, ← hdl] at hRR
          obtain ⟨OP, hOP⟩ : ∃ r, r = optsP d d.length 0 [] := ⟨_, rfl⟩
          have KP := parseOpts_any w8 Ad cd d HD.out.1 (by have := H64.out; omega)
          rw [← hOP] at hRR KP
          rw [← HND.out] at KP
          have HRR3 := hide hRR
          have HK7 := hide hk7
          have HDL := hide hdl
          have KP := hide KP
          clear hOP hd hdl hRR hk7
          go_wp2_with fail
          refine KP.out.mono ?_
          rintro e w10 ⟨Al, cl, l, m, rfl, hml, hm6, hsay, hmc, hrd, hob, hfa, hfx, bl10⟩
          have B10 : Hid (Below W.heap.size W w10) := hide (B8.out.trans (bl10.mono B8.out.size))
          have rz10 := HK.out w10 B10.out
          have HRD10 := hide (HRD8.out.below bl10)
          have HL := hide (And.intro hml (And.intro hm6 (And.intro hsay (And.intro hmc (And.intro hrd (And.intro hob (And.intro hfa hfx)))))))
          obtain ⟨OL, OE⟩ := OP
          have H8S : Hid (g < w8.heap.size ∧ w.heap.size < w8.heap.size) := hide ⟨HRD8.out.rd.lt, (Array.getElem?_eq_some_iff.1 rz8).1⟩
          clear hml hm6 hsay hmc hrd hob hfa hfx bl10 rz8 KE8 HRD8 KP
          dsimp only
          by_cases hoe : OE = 0
          · subst hoe
            have hRR := HRR3.out
            rw [if_neg (by simp)] at hRR
            have KC := critical_any w10 Al cl l HL.out.2.2.2.2.1 (by have h1 := HL.out.1; have h2 := HL.out.2.1; omega)
            rw [← HL.out.1, critG_say, HL.out.2.2.1] at KC
            have hf : (bits BinOp.and IntKind.i64 (N2 : Int) 64 != 0) = decide (N2 / 64 % 2 = 1) := by
              rw [and64 (by omega)]
              rcases Nat.mod_two_eq_zero_or_one (N2 / 64) with h | h <;> rw [h] <;> rfl
            simp only at KC hRR
            obtain ⟨cr, hcr⟩ : ∃ x, x = critD OL := ⟨_, rfl⟩
            obtain ⟨fb, hfb⟩ : ∃ x, x = decide (N2 / 64 % 2 = 1) := ⟨_, rfl⟩
            rw [← hcr] at KC hRR
            rw [← hfb] at hf hRR
            have KC := hide KC
            have HR4 := hide hRR
            obtain ⟨x64, hx64⟩ : ∃ x, x = bits BinOp.and IntKind.i64 (N2 : Int) 64 := ⟨_, rfl⟩
            have hx64' := hx64.symm
            rw [hx64'] at hf
            clear hRR hcr hfb hx64
            go_wp2_with fail
            refine KC.out.mono ?_
            rintro e w11 ⟨rfl, b11⟩
            have B11 : Hid (Below W.heap.size W w11) := hide (B10.out.trans (b11.mono B10.out.size))
            have rz11 := HK.out w11 B11.out
            have HRD11 := hide (HRD10.out.below b11)
            have HB11 := hide b11
            clear b11 rz10 KC
            dsimp only
            by_cases hcf : cr = fb
            · subst hcf
              have hRR := HR4.out
              rw [if_neg (by simp)] at hRR
              have hdec : (bits BinOp.and IntKind.i64 (N2 : Int) 128 != 0) = decide (128 ≤ N2) := by
                rw [and128 (by omega)]
                rcases Nat.lt_or_ge N2 128 with h | h
                · rw [Nat.div_eq_of_lt h, decide_eq_false (by omega)]; rfl
                · rw [show N2 / 128 = 1 by omega, decide_eq_true h]; rfl
              obtain ⟨oo, hoo⟩ : ∃ x, x = decide (128 ≤ N2) := ⟨_, rfl⟩
              rw [← hoo] at hdec hRR
              have HR5 := hide hRR
              obtain ⟨LE, hLE⟩ : ∃ n, n = b.length - k7 := ⟨_, rfl⟩
              have hLEi : (b.length : Int) - (k7 : Int) = (LE : Int) := by have := HRD11.out.le; omega
              have HLE := hide hLE
              clear hRR hoo hLE
              rcases Bool.eq_false_or_eq_true cr with rfl | rfl
              all_goals (
                go_wp2_with fail
                refine (left_any w11 g A' b.length c' k7 0 HRD11.out.rd HLN.out HRD11.out.le).mono ?_
                rintro e w12 ⟨rfl, q, rfl⟩
                obtain ⟨W12, hW12⟩ : ∃ W, W = w11.drewN q := ⟨_, rfl⟩
                have bl12 : Below w11.heap.size w11 W12 := by rw [hW12]; exact below_drewN (Below.refl _ _) q
                rw [← hW12, hLEi]
                have B12 : Hid (Below W.heap.size W W12) := hide (B11.out.trans (bl12.mono B11.out.size))
                have HRD12 := hide (HRD11.out.below bl12)
                have HB12 := hide (HB11.out.trans (bl12.mono HB11.out.size))
                have hi7 : RdI b (8 + 4 * N1) k7 0 := HI7.out
                clear bl12 hW12 rz11
                dsimp only
                go_wp2_with fail
                refine (takeI (g := g) (c := c') (A := A') W12 LE HRD12.out hi7 hl' HLN.out).mono ?_
                rintro e w13 ⟨D, AD, cD, k9, r9, rfl, hbD, hcD, hnD, haD, hR9, i9, hDl, e9, g9⟩
                have B13 : Hid (Below W.heap.size W w13) := hide (B12.out.grown g9 B12.out.size (fun k e => by cases e; exact HGW.out))
                have rz13 := HK.out w13 B13.out
                have hDD : D = b.drop (8 + 4 * N1) := by
                  have h1 := HLE.out
                  have h2 := HK7.out
                  have h3 := e9 (by omega)
                  rw [h3, List.take_of_length_le (by rw [List.length_drop]; omega)]
                have hgl : RdG w13 w13.heap.size Al l ∧ OgB w13 w13.heap.size l :=
                  ⟨(((HL.out.2.2.2.2.1.below HB12.out).grown g9 (fun a e => by have := HL.out.2.2.2.2.2.2.1 a e; have := H8S.out; omega)).more (Nat.le_trans HB12.out.size g9.size)),
                   (((HL.out.2.2.2.2.2.1.below HB12.out).grown g9 (fun x hx hp a e => by have := HL.out.2.2.2.2.2.2.2 x hx hp a e; have := H8S.out; omega)).more (Nat.le_trans HB12.out.size g9.size))⟩
                obtain ⟨nD, hnD'⟩ : ∃ n, n = D.length := ⟨_, rfl⟩
                rw [← hnD']
                obtain ⟨Y, hY⟩ : ∃ Y, Y = tunA oo (N3 : Int) (N4 : Int) Al m cl AD nD cD := ⟨_, rfl⟩
                have hbY := built_tun5 oo (N3 : Int) (N4 : Int) Al m cl AD nD cD
                rw [← hY] at hbY
                have hYs : Y.size = 5 := by rw [hY]; rfl
                have hYo : allOne Y = true := by rw [hY]; exact tunA_one _ _ _ _ _ _ _ _ _
                have hwW : w.heap.size < W12.heap.size := by have h1 := H8S.out; have h2 := B12.out.size; have h3 := HZ.out; omega
                have HF : Hid (PaR w R (.returned (.tuple #[.agg Y, .int .i64 0])) (w13.setRow w.heap.size Y)) := hide (by
                  have gs := grown_rowT w13 w.heap.size Y
                  rw [HR5.out, show b.drop (8 + d.length) = D by rw [HDL.out]; exact hDD.symm]
                  refine ⟨Y, rfl, ⟨Al, cl, l, AD, cD, by rw [hY, hnD', ← HL.out.1], HL.out.2.2.1, (hgl.1.grown gs (fun a e => ?_)).more gs.size, (hgl.2.grown gs (fun x hx hp a e => ?_)).more gs.size, by rw [← HL.out.1]; exact HL.out.2.2.2.1, ?_, hnD, ?_⟩, below_setRow (HB.out.trans (B13.out.mono HB.out.size)) (Nat.le_refl _) _⟩
                  · have := HL.out.2.2.2.2.2.2.1 a e; have := H8S.out; omega
                  · have := HL.out.2.2.2.2.2.2.2 x hx hp a e; have := H8S.out; omega
                  · have h5 : Byt (w13.setRow w.heap.size Y) w13.heap.size AD D := hbD.grown gs (fun hp a e e2 => by have := haD a e; have := Option.some.inj e2; omega)
                    exact h5.more gs.size
                  · exact hcD)
                clear hwW hDD hgl hbD hcD hnD haD hR9 i9 hDl e9 g9 hnD' hY hi7
                dsimp only
                go_wp2_with fail
                refine bodyPost_ret (results_cell_tmp (fn := Try.f13) Try.results13 _ _ w.heap.size 28 Y (0, 0) _ rfl (setRow_heap w13 w.heap.size Z Y _ _ rz13) Try.underlying28 rfl (by rw [hYs]; exact info_tunG)) rfl ?_
                exact HF.out)
            · have HE := hide (show R = (zT, 11) by rw [HR4.out, if_pos (by simpa using hcf)])
              have hcc : (cr = true ∧ fb = false) ∨ (cr = false ∧ fb = true) := by cases cr <;> cases fb <;> simp at hcf ⊢
              clear hcf HR4
              rcases hcc with ⟨rfl, rfl⟩ | ⟨rfl, rfl⟩
              all_goals (
                go_wp2_with fail
                refine bodyPost_ret (results_cell_tmp (fn := Try.f13) Try.results13 _ _ w.heap.size 28 Z (0, 0) _ rfl (setRow_heap w11 w.heap.size Z Z _ _ rz11) Try.underlying28 rfl (by rw [hZs]; exact info_tunG)) rfl ?_
                exact paR_err HZE.out HE.out (below_setRow (HB.out.trans (B11.out.mono HB.out.size)) (Nat.le_refl _) _))
          · have hne : (OE != 0) = true := by simpa using hoe
            have heq : (OE == 0) = false := by simpa using hoe
            have HE := hide (show R = (zT, OE) by rw [HRR3.out, if_pos hoe])
            clear hoe
            go_wp2_with fail
            refine bodyPost_ret (results_cell_tmp (fn := Try.f13) Try.results13 _ _ w.heap.size 28 Z (0, 0) _ rfl (setRow_heap w10 w.heap.size Z Z _ _ rz10) Try.underlying28 rfl (by rw [hZs]; exact info_tunG)) rfl ?_
            exact paR_err HZE.out HE.out (below_setRow (HB.out.trans (B10.out.mono HB.out.size)) (Nat.le_refl _) _)
        · have hr10 : r7 = 10 ∧ b.length < 8 + 4 * N1 := by
            rcases HI7.out with ⟨h1, -⟩ | ⟨h1, h2⟩
            · exact absurd h1 hr7
            · exact ⟨h1, h2⟩
          obtain ⟨rfl, hsh⟩ := hr10
          have HE := hide (show R = (zT, 10) by rw [HRR2.out, if_pos hsh])
          clear hsh hr7
          go_wp2_with fail
          refine bodyPost_ret (results_cell_tmp (fn := Try.f13) Try.results13 _ _ w.heap.size 28 Z (0, 0) _ rfl (setRow_heap w8 w.heap.size Z Z _ _ rz8) Try.underlying28 rfl (by rw [hZs]; exact info_tunG)) rfl ?_
          exact paR_err HZE.out HE.out (below_setRow (HB.out.trans (B8.out.mono HB.out.size)) (Nat.le_refl _) _)
  · have hr10 : r5 = 10 ∧ b.length < 8 := by
      rcases HI5.out with ⟨h1, -⟩ | ⟨h1, h2⟩
      · exact absurd h1 hr5
      · exact ⟨h1, by omega⟩
    obtain ⟨rfl, hsh⟩ := hr10
    have hE : R = (zT, 10) := by rw [HR.out]; unfold parD; rw [if_pos hsh]
    have HE := hide hE
    clear hsh hE hr5
    go_wp2_with fail
    refine KE.out.mono ?_
    rintro e w8 ⟨rfl, rfl⟩
    dsimp only
    go_wp2
    refine bodyPost_ret (results_cell_tmp (fn := Try.f13) Try.results13 _ _ w.heap.size 28 Z (0, 0) _ rfl (setRow_heap w6 w.heap.size Z Z _ _ rz6) Try.underlying28 rfl (by rw [hZs]; exact info_tunG)) rfl ?_
    exact paR_err HZE.out HE.out (below_setRow (HB.out.trans (B6.out.mono HB.out.size)) (Nat.le_refl _) _)
end Go.Proofs.Ytdmlgogjipcggaa
