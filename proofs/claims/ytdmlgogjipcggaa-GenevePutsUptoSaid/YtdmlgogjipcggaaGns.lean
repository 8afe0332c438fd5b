/-
  The walk of the statement GenevePuts.
-/
import Derived.Test.YtdmlgogjipcggaaGnr
import Derived.Test.YtdmlgogjipcggaaGnk
import Derived.Test.YtdmlgogjipcggaaGnm
import Derived.Test.YtdmlgogjipcggaaSpl
import Derived.Deep.RegionHeld3
namespace Go.Proofs.Ytdmlgogjipcggaa
open Go.RowKit
set_option maxRecDepth 100000
set_option linter.unusedVariables false
set_option linter.unusedSimpArgs false
attribute [local go_sem ↓] exec_span exec_put exec_build heap_alloc_new heap_old
attribute [local go_sem] spanQ_ptr spanC_some heap_of_drew heap_of_drewN putAt_ptr putOk_ptr oldOk_some World.setRow_alloc_new rs_tunG rs_rtunG

theorem OwnB.cvP {w : World} {base : Nat} {A : Option Addr} {c : Nat} {l : List UInt8} (h : OwnB w base (.slice A l.length c) l) : (convert 23 9 (.slice A l.length c)).run Try.prog w = .ok (.string ⟨l.toArray⟩) w := by
  obtain ⟨A', c', e, hlc, hby, -⟩ := h.shape
  cases e
  exact hby.cvG
theorem OwnB.onP {w w' : World} {base : Nat} {v : Value} {l : List UInt8} (h : OwnB w base v l) (b : Below w.heap.size w w') : OwnB w' base v l := World.ownsRow.kept h (grown_of_below b) (Classical.em _)
theorem TuG.size {w : World} {X : Array Value} {T : TuD} (h : TuG w X T) : X.size = 5 := by obtain ⟨_, _, _, _, _, rfl, _⟩ := h; rfl
theorem TuG.one {w : World} {X : Array Value} {T : TuD} (h : TuG w X T) : allOne X = true := by obtain ⟨_, _, _, _, _, rfl, _⟩ := h; exact tunA_one _ _ _ _ _ _ _ _ _
theorem TuG.x0 {w : World} {X : Array Value} {T : TuD} (h : TuG w X T) : X.extract 0 5 = X := by obtain ⟨_, _, _, _, _, rfl, _⟩ := h; rfl
/-- what a tunnel may have at most. -/
structure LitT (T : TuD) : Prop where
  l : T.l.length ≤ 1048576
  s : sizeD T.l ≤ 8388608
  D : T.D.length ≤ 1048576
  d : ∀ x ∈ T.l, x.2.2.length ≤ 1048576
set_option maxHeartbeats 8000000 in
theorem genevePuts_any (w : World) (X : Array Value) (T : TuD) (h : TuG w X T) (ht : LitT T) :
    Calls Try.prog 3 #[.agg X] w fun e w' => e = .returned (.bool true) ∧ Below w.heap.size w w' := by
  obtain ⟨W, hW, r1, z1, hbW⟩ := alloc_tl w (.cells X 25)
  have hxs := h.size
  have hxo := h.one
  have hxx := h.x0
  have KG := hide (fun (W1 : World) (b : Below w.heap.size w W1) => givenG_any W1 X T (h.below b) ht.l (Nat.le_trans ht.D (by decide)) (fun x hx => Nat.le_trans (ht.d x hx) (by decide)))
  have KR := hide (fun (W1 : World) (b : Below w.heap.size w W1) => refputG_any W1 X T (h.below b) ht.l (Nat.le_trans ht.D (by decide)) (fun x hx => Nat.le_trans (ht.d x hx) (by decide)))
  have HT := hide ht
  have HH := hide h
  have HB := hide hbW
  have HR := hide r1
  have hWW := hide hW
  clear hW z1 hbW h ht r1
  go_enter Try.func3, Try.ntmps3
  go_upto_region 1 with (fail)
  change Code.wp _ _ _ _ (w.alloc (.cells X 25))
  rw [hWW.out]
  have rX := HR.out
  go_wp2_with fail
  refine (KG.out W HB.out).mono ?_
  rintro e w2 ⟨Y, rfl, tg2, b2⟩
  have hys := tg2.size
  have hyo := tg2.one
  have hyx := tg2.x0
  obtain ⟨W3, hW3, r3, z3, b3⟩ := alloc_tl w2 (.cells Y 28)
  have B23 : Below W.heap.size W W3 := b2.trans (b3.mono b2.size)
  have rX3 := (B23.block w.heap.size (Array.getElem?_eq_some_iff.1 HR.out).1).trans HR.out
  have tg3 : TuG W3 Y T := tg2.below b3
  have BW3 : Hid (Below w.heap.size w W3) := hide (HB.out.trans (B23.mono HB.out.size))
  obtain ⟨g3, hg3⟩ : ∃ g, g = w2.heap.size := ⟨_, rfl⟩
  rw [← hg3] at r3
  have hg3l : g3 < W3.heap.size := by omega
  have HKK := hide (fun (W1 : World) (b : Below W3.heap.size W3 W1) => (⟨(b.block w.heap.size (Array.getElem?_eq_some_iff.1 rX3).1).trans rX3, (b.block g3 hg3l).trans r3⟩ : W1.heap[w.heap.size]? = some (.cells X 25 (0, 0)) ∧ W1.heap[g3]? = some (.cells Y 28 (0, 0))))
  have KP := hide (fun (W1 : World) (b : Below W3.heap.size W3 W1) => putGG_any W1 Y T (tg3.below b) HT.out.l (Nat.le_trans HT.out.s (by decide)))
  have KT := hide (fun (W1 : World) (b : Below W3.heap.size W3 W1) => takenG_any W1 Y T (tg3.below b) HT.out.l)
  have hWW3 := hide hW3
  have HG3 := hide hg3
  clear hW3 r3 z3 b3 b2 tg2 tg3 B23 rX3 hg3l rX hg3
  dsimp only
  go_upto_region 2 with (fail)
  rw [hWW3.out, ← HG3.out]
  obtain ⟨x3, y3⟩ := HKK.out W3 (Below.refl _ _)
  obtain ⟨L, hL⟩ : ∃ L, L = (putD T).1 := ⟨_, rfl⟩
  obtain ⟨E, hE⟩ : ∃ E, E = (putD T).2 := ⟨_, rfl⟩
  unfold PutPG at KP
  rw [← hL, ← hE] at KP KR
  have HLE := hide (And.intro hL hE)
  clear hL hE
  go_wp2_with fail
  refine (KP.out W3 (Below.refl _ _)).mono ?_
  rintro e w4 ⟨A, c, rfl, o4, b4⟩
  have C4 := hide b4
  have P4 := hide o4
  obtain ⟨x4, y4⟩ := HKK.out w4 b4
  clear o4 b4 x3 y3
  dsimp only
  go_wp2_with fail
  refine (KR.out w4 (BW3.out.trans (C4.out.mono BW3.out.size))).mono ?_
  rintro e w5 ⟨A2, c2, rfl, o5, b5⟩
  have C5 : Hid (Below W3.heap.size W3 w5) := hide (C4.out.trans (b5.mono C4.out.size))
  have P5 : Hid (OwnB w5 W3.heap.size (.slice A L.length c) L) := hide (P4.out.onP b5)
  have O5 := hide o5
  obtain ⟨x5, y5⟩ := HKK.out w5 C5.out
  have x5d : w5.drew.heap[w.heap.size]? = some (.cells X 25 (0, 0)) := x5
  have y5d : w5.drew.heap[g3]? = some (.cells Y 28 (0, 0)) := y5
  have cx5d : (convert 23 9 (.slice A L.length c)).run Try.prog w5.drew = .ok (.string ⟨L.toArray⟩) w5.drew := (P5.out.drewN 1).cvP
  have cy5d : (convert 23 9 (.slice A2 L.length c2)).run Try.prog w5.drew = .ok (.string ⟨L.toArray⟩) w5.drew := (O5.out.drewN 1).cvP
  clear o5 b5 x4 y4
  dsimp only
  go_wp2_with fail
  go_region_held3 (fun w' => w'.heap[w.heap.size]? = some (.cells X 25 (0, 0)) ∧ w'.heap[g3]? = some (.cells Y 28 (0, 0)) ∧ (convert 23 9 (.slice A L.length c)).run Try.prog w' = .ok (.string ⟨L.toArray⟩) w' ∧ (convert 23 9 (.slice A2 L.length c2)).run Try.prog w' = .ok (.string ⟨L.toArray⟩) w')
    (first
      | exact ⟨x5d, y5d, cx5d, cy5d⟩
      | exact ⟨x6, y6, cx6, cy6⟩
      | exact ⟨x7, y7, cx7, cy7⟩
      | fail)
    (first
      | (go_at_call 10; (with_reducible refine (KT.out w5.drew C5.out.drew).mono ?_); rintro e w6 ⟨Y6, rfl, tg6, b6⟩; have C6 : Hid (Below W3.heap.size W3 w6) := hide (C5.out.trans ((below_undrew' b6).mono C5.out.size)); have T6 := hide tg6; obtain ⟨x6, y6⟩ := HKK.out w6 C6.out; have P6 : Hid (OwnB w6 W3.heap.size (.slice A L.length c) L) := hide (P5.out.onP (below_undrew' b6)); have O6 : Hid (OwnB w6 w4.heap.size (.slice A2 L.length c2) L) := hide (O5.out.onP (below_undrew' b6)); have cx6 := P6.out.cvP; have cy6 := O6.out.cvP; clear b6 tg6)
      | (go_at_call 9; (with_reducible refine (refsameG_any w6 Y6 X T T6.out (HH.out.below (BW3.out.trans (C6.out.mono BW3.out.size))) HT.out.l).mono ?_); rintro e w7 ⟨rfl, b7⟩; have C7 : Hid (Below W3.heap.size W3 w7) := hide (C6.out.trans (b7.mono C6.out.size)); obtain ⟨x7, y7⟩ := HKK.out w7 C7.out; have P7 : Hid (OwnB w7 W3.heap.size (.slice A L.length c) L) := hide (P6.out.onP b7); have O7 : Hid (OwnB w7 w4.heap.size (.slice A2 L.length c2) L) := hide (O6.out.onP b7); have cx7 := P7.out.cvP; have cy7 := O7.out.cvP; clear b7)
      | fail)
  clear x5 y5 x5d y5d cx5d cy5d x6 y6 cx6 cy6 cx7 cy7
  by_cases hE0 : E = 0
  · subst hE0
    have hpd : putD T = (bytD T, 0) ∧ rightD T = true ∧ sizeD T.l ≤ 252 := by
      have h0 := HLE.out.2
      unfold putD at h0 ⊢
      by_cases k1 : rightD T = false
      · rw [if_pos k1] at h0; cases h0
      · rw [if_neg k1] at h0 ⊢
        by_cases k2 : 252 < sizeD T.l
        · rw [if_pos k2] at h0; cases h0
        · rw [if_neg k2] at h0 ⊢
          by_cases k3 : (bytD T).length ≤ 65535
          · rw [if_pos k3]; exact ⟨rfl, by simpa using k1, by omega⟩
          · rw [if_neg k3] at h0; cases h0
    have hLb : L = bytD T := by rw [HLE.out.1, hpd.1]
    have hpar : parD L = (T, 0) := by rw [hLb]; exact parD_byt hpd.2.1 hpd.2.2
    have hL65 : L.length ≤ 65535 := by
      have h0 := HLE.out.2
      unfold putD at h0
      rw [if_neg (by rw [hpd.2.1]; simp), if_neg (by omega)] at h0
      by_cases k3 : (bytD T).length ≤ 65535
      · rw [hLb]; exact k3
      · rw [if_neg k3] at h0; cases h0
    have hL8 : 8 ≤ L.length := by rw [hLb, bytD_len]; omega
    have HPAR := hide hpar
    have HL8 := hide (And.intro hL8 hL65)
    clear hpd hLb hpar hL65 hL8
    go_wp2_with fail
    refine (spoil_any w7 W3.heap.size A L.length c P7.out.x).mono ?_
    rintro e w8 ⟨rfl, gr8, -⟩
    have C8 : Hid (Below W3.heap.size W3 w8) := hide (C7.out.grown gr8 C7.out.size (fun k hk => (World.ownsRow.lt P7.out k hk).1))
    have O8 : Hid (OwnB w8 w4.heap.size (.slice A2 L.length c2) L) := hide (World.ownsRow.kept O7.out gr8 (by
      rcases O7.out.2 with ⟨e, -⟩ | ⟨g, cap, cur, e, hb5, -⟩
      · exact .inl (by rw [e]; rfl)
      · refine .inr fun e2 => ?_
        rw [e] at e2
        have h5 := (World.ownsRow.lt P4.out g (by rw [← e2]; rfl)).2
        omega))
    obtain ⟨A8, c8, e8, hlc8, hby8, hnl8, -⟩ := O8.out.shape
    have KQ := hide (genParse_any w8 A2 c2 L (by cases e8; exact hby8) (by have := HL8.out; omega))
    clear gr8 e8 hlc8 hby8 hnl8
    (try dsimp only)
    go_wp2_with fail
    refine KQ.out.mono ?_
    rintro e w9 ⟨Z, rfl, tg9, b9⟩
    rw [HPAR.out] at tg9 ⊢
    have hzs := tg9.size
    have hzo := tg9.one
    have hzx := tg9.x0
    obtain ⟨W9, hW9, r9, z9, b99⟩ := alloc_tl w9 (.cells Z 28)
    obtain ⟨g9, hg9⟩ : ∃ g, g = w9.heap.size := ⟨_, rfl⟩
    rw [← hg9] at r9
    have T9 := hide (tg9.below b99)
    have C9 : Hid (Below W3.heap.size W3 W9) := hide (C8.out.trans ((b9.trans (b99.mono b9.size)).mono C8.out.size))
    have hg9l : g9 < W9.heap.size := by omega
    have HK9 := hide (fun (W1 : World) (b : Below W9.heap.size W9 W1) => (⟨(HKK.out W1 (C9.out.trans (b.mono C9.out.size))).1, (HKK.out W1 (C9.out.trans (b.mono C9.out.size))).2, (b.block g9 hg9l).trans r9⟩ : W1.heap[w.heap.size]? = some (.cells X 25 (0, 0)) ∧ W1.heap[g3]? = some (.cells Y 28 (0, 0)) ∧ W1.heap[g9]? = some (.cells Z 28 (0, 0))))
    have KT9 := hide (fun (W1 : World) (b : Below W9.heap.size W9 W1) => takenG_any W1 Z T (T9.out.below b) HT.out.l)
    have HW9 := hide (And.intro hW9 hg9)
    clear tg9 hW9 r9 z9 b99 b9 KQ hg9l hg9
    (try dsimp only)
    go_upto_region 10 with (fail)
    rw [HW9.out.1, ← HW9.out.2]
    obtain ⟨p0, q0, s0⟩ := HK9.out W9.drew (Below.refl W9.heap.size W9).drew
    have KS := hide (fun (W1 : World) (b : Below W9.heap.size W9 W1) (Y6 : Array Value) (tg : TuG W1 Y6 T) => refsameG_any W1 Y6 X T tg (HH.out.below (BW3.out.trans ((C9.out.trans (b.mono C9.out.size)).mono BW3.out.size))) HT.out.l)
    have KTO := hide (fun (W1 : World) (b : Below W9.heap.size W9 W1) => KT.out W1 (C9.out.trans (b.mono C9.out.size)))
    have D0 : Hid (Below W9.heap.size W9 W9.drew) := hide (Below.refl W9.heap.size W9).drew
    clear KT KP KR KG
    go_region_held3 (fun w' => w'.heap[w.heap.size]? = some (.cells X 25 (0, 0)) ∧ w'.heap[g3]? = some (.cells Y 28 (0, 0)) ∧ w'.heap[g9]? = some (.cells Z 28 (0, 0)))
      (first
        | exact ⟨p0, q0, s0⟩
        | exact ⟨p1, q1, s1⟩
        | exact ⟨p2, q2, s2⟩
        | exact ⟨p3, q3, s3⟩
        | exact ⟨p4, q4, s4⟩
        | exact ⟨p5, q5, s5⟩
        | fail)
      (first
        | (go_at_call 10; (with_reducible refine (KT9.out W9.drew D0.out).mono ?_); rintro e v1 ⟨Y1, rfl, tg1, b1⟩; have D1 : Hid (Below W9.heap.size W9 v1) := hide (below_undrew' b1); have T1 := hide tg1; obtain ⟨p1, q1, s1⟩ := HK9.out v1 D1.out; clear b1 tg1)
        | (go_at_call 9; (with_reducible refine (KS.out v1 D1.out Y1 T1.out).mono ?_); rintro e v2 ⟨rfl, b2⟩; have D2 : Hid (Below W9.heap.size W9 v2) := hide (D1.out.trans (b2.mono D1.out.size)); obtain ⟨p2, q2, s2⟩ := HK9.out v2 D2.out; clear b2)
        | (go_at_call 10; (with_reducible refine (KTO.out v2 D2.out).mono ?_); rintro e v3 ⟨Y3, rfl, tg3, b3⟩; have D3 : Hid (Below W9.heap.size W9 v3) := hide (D2.out.trans (b3.mono D2.out.size)); have T3 := hide tg3; obtain ⟨p3, q3, s3⟩ := HK9.out v3 D3.out; clear b3 tg3)
        | (go_at_call 9; (with_reducible refine (KS.out v3 D3.out Y3 T3.out).mono ?_); rintro e v4 ⟨rfl, b4⟩; have D4 : Hid (Below W9.heap.size W9 v4) := hide (D3.out.trans (b4.mono D3.out.size)); obtain ⟨p4, q4, s4⟩ := HK9.out v4 D4.out; clear b4)
        | (go_at_call 11; (with_reducible refine (known7_any v4).mono ?_); rintro e v5 ⟨rfl, b5⟩; have D5 : Hid (Below W9.heap.size W9 v5) := hide (D4.out.trans (b5.mono D4.out.size)); obtain ⟨p5, q5, s5⟩ := HK9.out v5 D5.out; clear b5)
        | fail)
    have DF : Hid (Below w.heap.size w v5) := hide (BW3.out.trans ((C9.out.trans (D5.out.mono C9.out.size)).mono BW3.out.size))
    clear p0 q0 s0 p1 q1 s1 p2 q2 s2 p3 q3 s3 p4 q4 s4 p5 q5 s5
    go_wp2
    go_ret
    exact ⟨rfl, DF.out⟩
  · have hEb : ((E : Int) == 0) = false := by simp; exact hE0
    have hEn : ((E : Int) != 0) = true := by simp; exact hE0
    clear hE0
    go_wp2_with fail
    refine (known7_any w7).mono ?_
    rintro e w8 ⟨rfl, b8⟩
    have DF : Hid (Below w.heap.size w w8) := hide (BW3.out.trans ((C7.out.trans (b8.mono C7.out.size)).mono BW3.out.size))
    clear b8
    (try dsimp only)
    go_wp2
    go_ret
    exact ⟨rfl, DF.out⟩
end Go.Proofs.Ytdmlgogjipcggaa
