/-
  The walk of the statement HeaderPuts.
-/
import Derived.Test.YtnhcfmmmghghgaaJu
import Derived.Test.YtnhcfmmmghghgaaJv
import Derived.Test.YtnhcfmmmghghgaaJl
import Derived.Test.YtnhcfmmmghghgaaSpl
namespace Go.Proofs.Ytnhcfmmmghghgaa
open Go.RowKit
attribute [local go_sem ↓] exec_span exec_put exec_build heap_alloc_new heap_old
attribute [local go_sem] spanQ_ptr spanC_some heap_of_drew heap_of_drewN rs_arr rs_ad rs_ip rs_rip putAt_ptr putOk_ptr oldOk_some World.setRow_alloc_new
set_option maxRecDepth 100000
set_option linter.unusedVariables false
set_option linter.unusedSimpArgs false

theorem OwnB.cv {w : World} {base : Nat} {A : Option Addr} {c : Nat} {l : List UInt8} (h : OwnB w base (.slice A l.length c) l) : (convert 25 9 (.slice A l.length c)).run Try.prog w = .ok (.string ⟨l.toArray⟩) w := by
  obtain ⟨A', c', e, hlc, hby, -⟩ := h.shape
  cases e
  exact conv_any A c l w.heap.size w hby

set_option maxHeartbeats 8000000 in
theorem headerPuts_any (w : World) (X : Array Value) (h : Ip) (O D : List UInt8) (p : InP w X h O D) :
    Calls Try.prog 3 #[.agg X] w fun e w' => e = .returned (.bool true) ∧ Below w.heap.size w w' := by
  obtain ⟨W, hW, h1, hz, hb⟩ := one_block w (.cells X 27)
  have hxs := p.x.size
  have hxr := p.x.x0
  have KG := hide (fun (W1 : World) (b : Below w.heap.size w W1) => (p.below b).given)
  have KP := hide (putG p)
  have KR := hide (fun (W1 : World) (b : Below w.heap.size w W1) => refputH_any W1 X h O D (p.below b))
  have hno := Nat.le_trans p.om (show 140737488351232 ≤ 140737488355328 by decide)
  have KS := hide (fun (W1 : World) => refsizeH_any W1 X h p.x hno)
  have KZ : Hid (∀ (W1 : World) (g1 g2 : Nat), Calls Try.prog 12 #[.agg (ipL (givH h g1 g2)).toArray] W1 fun e w' => e = .returned (.int .i64 (sizeH h)) ∧ Below W1.heap.size W1 w') := hide (fun (W1 : World) (g1 g2 : Nat) => sizeh_any W1 (ipL (givH h g1 g2)).toArray (givH h g1 g2) ⟨rfl, p.x.ls, p.x.ld⟩ hno)
  obtain ⟨zH, hzH⟩ : ∃ z, z = sizeH h := ⟨_, rfl⟩
  rw [← hzH] at KS KZ
  clear hzH
  have KT := hide (fun (W1 : World) (g1 g2 : Nat) => taken_any W1 (ipL (givH h g1 g2)).toArray (givH h g1 g2) ⟨rfl, p.x.ls, p.x.ld⟩)
  have HX := hide p
  obtain ⟨E, hE⟩ : ∃ E, E = pktE h := ⟨_, rfl⟩
  obtain ⟨L, hL⟩ : ∃ L, L = pktB h O D := ⟨_, rfl⟩
  rw [← hE, ← hL] at KP KR
  have HE := hide hE
  have HL := hide hL
  have HB := hide hb
  have HZ := hide hz
  have H1 := hide h1
  clear hE hL hb hz p hno
  go_enter Try.func3, Try.ntmps3
  go_wp2_with fail
  refine (KG.out W HB.out).mono ?_
  rintro e w4 ⟨g1, g2, rfl, L1, L2, -, -, b4⟩
  have B4 : Hid (Below w.heap.size w w4) := hide (HB.out.trans (b4.mono HB.out.size))
  have r4 := (b4.block w.heap.size (by have := HZ.out; omega)).trans h1
  have hg1 := L1.lt
  have hg2 := L2.lt
  have HL1 := hide L1
  have HL2 := hide L2
  have HG1 := hide hg1
  have HG2 := hide hg2
  have hV : IpV (ipL (givH h g1 g2)).toArray (givH h g1 g2) := ⟨rfl, HX.out.x.ls, HX.out.x.ld⟩
  have HV := hide hV
  have hVs := hV.size
  have hVr := hV.x0
  have hVo := hV.one
  have KT := hide (fun W1 => KT.out W1 g1 g2)
  have KZ := hide (fun W1 => KZ.out W1 g1 g2)
  obtain ⟨V, hVV⟩ : ∃ V, V = (ipL (givH h g1 g2)).toArray := ⟨_, rfl⟩
  have KP := hide (fun W1 => KP.out W1 g1 g2)
  rw [← hVV] at hVs hVr hVo KT KZ KP HV ⊢
  clear hVV hV b4 L1 L2 hg1 hg2
  go_wp2_with fail
  obtain ⟨W4, hW4⟩ : ∃ W4, W4 = w4.alloc (.cells V 28) := ⟨_, rfl⟩
  have b44 : Below w4.heap.size w4 W4 := by rw [hW4]; exact (Below.refl _ _).alloc (Nat.le_refl _) _
  have rV : W4.heap[w4.heap.size]? = some (.cells V 28 (0, 0)) := by rw [hW4]; exact heap_alloc_new w4 _
  have hzW4 : W4.heap.size = w4.heap.size + 1 := by rw [hW4]; simp
  have hw4 : w.heap.size < w4.heap.size := by have := HZ.out; have := (Array.getElem?_eq_some_iff.1 r4).1; omega
  have rX := (b44.block w.heap.size hw4).trans r4
  have HL1' : Hid (Lentd W4 g1 O) := hide (HL1.out.below b44 HG1.out)
  have HL2' : Hid (Lentd W4 g2 D) := hide (HL2.out.below b44 HG2.out)
  have BW4 : Hid (Below w.heap.size w W4) := hide (B4.out.trans (b44.mono B4.out.size))
  have HRX := hide rX
  have HRV := hide rV
  have HZW4 := hide hzW4
  have HW4 := hide hw4
  have HG1' : Hid (g1 < W4.heap.size) := hide (by have := HG1.out; omega)
  have HG2' : Hid (g2 < W4.heap.size) := hide (by have := HG2.out; omega)
  have HKK := hide (fun (W1 : World) (b : Below W4.heap.size W4 W1) => (⟨(b.block w.heap.size (by omega)).trans rX, (b.block w4.heap.size (by omega)).trans rV, HL1'.out.below b HG1'.out, HL2'.out.below b HG2'.out⟩ : W1.heap[w.heap.size]? = some (.cells X 27 (0, 0)) ∧ W1.heap[w4.heap.size]? = some (.cells V 28 (0, 0)) ∧ Lentd W1 g1 O ∧ Lentd W1 g2 D))
  rw [← hW4]
  clear hW4 b44 rV hzW4 hw4 rX r4 HL1 HL2 HG1 HG2
  refine (KP.out W4 HL1'.out HL2'.out).mono ?_
  rintro e w5 ⟨A, c, rfl, ho, b5⟩
  have C5 : Hid (Below W4.heap.size W4 w5) := hide b5
  have HO5 := hide ho
  obtain ⟨r5, s5, l5, m5⟩ := HKK.out w5 b5
  clear b5 ho l5 m5 h1
  dsimp only
  go_wp2_with fail
  refine (KR.out w5 (BW4.out.trans (C5.out.mono BW4.out.size))).mono ?_
  rintro e w6 ⟨A2, c2, rfl, ho2, b6⟩
  have C6 : Hid (Below W4.heap.size W4 w6) := hide (C5.out.trans (b6.mono C5.out.size))
  obtain ⟨A', c', hv', hlc, hby, hnil, -⟩ := HO5.out.shape
  cases hv'
  obtain ⟨A', c', hv', hlc2, hby2, hnil2, -⟩ := ho2.shape
  cases hv'
  have hbyx := hby.below b6
  have hcx := conv_any A c L w5.heap.size w6 hbyx
  have hcy := conv_any A2 c2 L w6.heap.size w6 hby2
  have hcxd := conv_any A c L w5.heap.size w6.drew hbyx
  have hcyd := conv_any A2 c2 L w6.heap.size w6.drew hby2
  have HO6 := hide ho2
  have HO56 : Hid (OwnB w6 W4.heap.size (.slice A L.length c) L) := hide (World.ownsRow.kept HO5.out (below_row b6 none) (Classical.em _))
  have HBY2 := hide hby2
  have HLC2 := hide hlc2
  have HB6 := hide b6
  obtain ⟨r6, s6, l6, m6⟩ := HKK.out w6 C6.out
  have r6d : w6.drew.heap[w.heap.size]? = some (.cells X 27 (0, 0)) := r6
  have s6d : w6.drew.heap[w4.heap.size]? = some (.cells V 28 (0, 0)) := s6
  clear hby hby2 hbyx ho2 b6 hlc hlc2 hnil hnil2 l6 m6 r5 s5
  have KM := hide (fun (W1 : World) (b : Below W4.heap.size W4 W1) => refsameH_any W1 V X (givH h g1 g2) h.ao h.ad h.co h.cd HV.out HX.out.x O D
    ((HKK.out W1 b).2.2.1.byt (Nat.lt_of_lt_of_le HG1'.out b.size)) HX.out.ol ((HKK.out W1 b).2.2.2.byt (Nat.lt_of_lt_of_le HG2'.out b.size)) HX.out.dl
    ((HX.out.o.below (BW4.out.trans (b.mono BW4.out.size))).more (Nat.le_trans BW4.out.size b.size)) ((HX.out.d.below (BW4.out.trans (b.mono BW4.out.size))).more (Nat.le_trans BW4.out.size b.size)))
  dsimp only
  go_wp2_with fail
  go_region_held3 (fun w' => w'.heap[w.heap.size]? = some (.cells X 27 (0, 0)) ∧ w'.heap[w4.heap.size]? = some (.cells V 28 (0, 0)) ∧ (convert 25 9 (.slice A L.length c)).run Try.prog w' = .ok (.string ⟨L.toArray⟩) w' ∧ (convert 25 9 (.slice A2 L.length c2)).run Try.prog w' = .ok (.string ⟨L.toArray⟩) w')
    (first
      | exact ⟨r6d, s6d, hcxd, hcyd⟩
      | exact ⟨r7, s7, cx7, cy7⟩
      | exact ⟨r8, s8, cx8, cy8⟩
      | exact ⟨r9, s9, cx9, cy9⟩
      | exact ⟨r10, s10, cx10, cy10⟩
      | fail)
    (first
      | (go_at_call 11; (with_reducible refine (KT.out w6.drew).mono ?_); rintro e w7 ⟨rfl, b7⟩; have C7 : Hid (Below W4.heap.size W4 w7) := hide (C6.out.drew.trans (b7.mono C6.out.drew.size)); obtain ⟨r7, s7, l7, m7⟩ := HKK.out w7 C7.out; have O7 : Hid (OwnB w7 w5.heap.size (.slice A2 L.length c2) L) := hide (World.ownsRow.kept HO6.out (below_row (below_undrew' b7) none) (Classical.em _)); have P7 : Hid (OwnB w7 W4.heap.size (.slice A L.length c) L) := hide (World.ownsRow.kept HO56.out (below_row (below_undrew' b7) none) (Classical.em _)); have cx7 := P7.out.cv; have cy7 := O7.out.cv; clear b7 l7 m7)
      | (go_at_call 10; (with_reducible refine (KM.out w7 C7.out).mono ?_); rintro e w8 ⟨rfl, b8⟩; have C8 : Hid (Below W4.heap.size W4 w8) := hide (C7.out.trans (b8.mono C7.out.size)); obtain ⟨r8, s8, l8, m8⟩ := HKK.out w8 C8.out; have O8 : Hid (OwnB w8 w5.heap.size (.slice A2 L.length c2) L) := hide (World.ownsRow.kept O7.out (below_row b8 none) (Classical.em _)); have P8 : Hid (OwnB w8 W4.heap.size (.slice A L.length c) L) := hide (World.ownsRow.kept P7.out (below_row b8 none) (Classical.em _)); have cx8 := P8.out.cv; have cy8 := O8.out.cv; clear b8 l8 m8)
      | (go_at_call 12; (with_reducible refine (KZ.out w8).mono ?_); rintro e w9 ⟨rfl, b9⟩; have C9 : Hid (Below W4.heap.size W4 w9) := hide (C8.out.trans (b9.mono C8.out.size)); obtain ⟨r9, s9, l9, m9⟩ := HKK.out w9 C9.out; have O9 : Hid (OwnB w9 w5.heap.size (.slice A2 L.length c2) L) := hide (World.ownsRow.kept O8.out (below_row b9 none) (Classical.em _)); have P9 : Hid (OwnB w9 W4.heap.size (.slice A L.length c) L) := hide (World.ownsRow.kept P8.out (below_row b9 none) (Classical.em _)); have cx9 := P9.out.cv; have cy9 := O9.out.cv; clear b9 l9 m9)
      | (go_at_call 13; (with_reducible refine (KS.out w9).mono ?_); rintro e w10 ⟨rfl, b10⟩; have C10 : Hid (Below W4.heap.size W4 w10) := hide (C9.out.trans (b10.mono C9.out.size)); obtain ⟨r10, s10, l10, m10⟩ := HKK.out w10 C10.out; have O10 : Hid (OwnB w10 w5.heap.size (.slice A2 L.length c2) L) := hide (World.ownsRow.kept O9.out (below_row b10 none) (Classical.em _)); have P10 : Hid (OwnB w10 W4.heap.size (.slice A L.length c) L) := hide (World.ownsRow.kept P9.out (below_row b10 none) (Classical.em _)); have cx10 := P10.out.cv; have cy10 := O10.out.cv; clear b10 l10 m10)
      | fail)
  all_goals (
    clear r6 s6 r6d s6d hcx hcy hcxd hcyd r7 s7 r8 s8 r9 s9 cx7 cy7 cx8 cy8 cx9 cy9 cx10 cy10
    by_cases hE0 : E = 0
    · subst hE0
      have ls := HX.out.x.ls
      have ld := HX.out.x.ld
      have hll : L.length ≤ 65535 := by rw [HL.out, pk_len HE.out.symm ls ld HX.out.ol HX.out.dl]; exact (pktE_zero HE.out.symm).2
      have HLL := hide hll
      have hk0 : pkE L = 0 := by
        have e := pk_on (T := []) HE.out.symm ls ld HX.out.ol HX.out.dl
        rw [List.append_nil, ← HL.out] at e
        exact e
      have HK0 := hide hk0
      clear hk0 hll
      go_wp2_with fail
      refine (spoil_any w10 W4.heap.size A L.length c P10.out.x).mono ?_
      rintro e w11 ⟨rfl, gr11, -⟩
      have C11 : Hid (Below W4.heap.size W4 w11) := hide (C10.out.grown gr11 C10.out.size (fun k hk => (World.ownsRow.lt P10.out k hk).1))
      have O11 : Hid (OwnB w11 w5.heap.size (.slice A2 L.length c2) L) := hide (World.ownsRow.kept O10.out gr11 (by
        rcases O10.out.2 with ⟨e, -⟩ | ⟨g, cap, cur, e, hb5, -⟩
        · exact .inl (by rw [e]; rfl)
        · refine .inr fun e2 => ?_
          rw [e] at e2
          have h5 := (World.ownsRow.lt HO5.out g (by rw [← e2]; rfl)).2
          omega))
      obtain ⟨A', c', hv', hlc, hby, hnil, -⟩ := O11.out.shape
      cases hv'
      have KQ := parse_any w11 w11.heap.size A2 L c2 hlc (by have := HLL.out; omega) hby (Nat.le_refl _)
      have HKQ := hide KQ
      obtain ⟨r11, s11, l11, m11⟩ := HKK.out w11 C11.out
      clear KQ hby hlc hnil gr11 l11 m11 r10 s10
      dsimp only
      go_wp2_with fail
      refine HKQ.out.mono ?_
      rintro e w12 ⟨X5, rfl, b12, -, hok⟩
      rw [HK0.out]
      have hok := hok HK0.out
      rw [HL.out] at hok
      obtain ⟨ao, co, ad, cd, hV5, y1, y2⟩ := back_any HE.out.symm ls ld HX.out.ol HX.out.dl hok
      have C12 : Hid (Below W4.heap.size W4 w12) := hide (C11.out.trans (b12.mono C11.out.size))
      have x5s := hV5.size
      have x5r := hV5.x0
      have x5o := hV5.one
      have HV5 := hide hV5
      have HY1 := hide y1
      have HY2 := hide y2
      clear hok hV5 y1 y2 b12 r11 s11
      dsimp only
      go_wp2_with fail
      obtain ⟨W13, hW13⟩ : ∃ W13, W13 = w12.alloc (.cells X5 28) := ⟨_, rfl⟩
      have b13 : Below w12.heap.size w12 W13 := by rw [hW13]; exact (Below.refl _ _).alloc (Nat.le_refl _) _
      have t13 : W13.heap[w12.heap.size]? = some (.cells X5 28 (0, 0)) := by rw [hW13]; exact heap_alloc_new w12 _
      have C13 : Hid (Below W4.heap.size W4 W13) := hide (C12.out.trans (b13.mono C12.out.size))
      have hY1 : Byt W13 W13.heap.size ao O := (HY1.out.below b13).more b13.size
      have hY2 : Byt W13 W13.heap.size ad D := (HY2.out.below b13).more b13.size
      have ht13 := (Array.getElem?_eq_some_iff.1 t13).1
      have KM5 := hide (fun (W1 : World) (b : Below W13.heap.size W13 W1) => refsameH_any W1 X5 X (othH h ao co ad cd) h.ao h.ad h.co h.cd HV5.out HX.out.x O D
        ((hY1.below b).more b.size) HX.out.ol ((hY2.below b).more b.size) HX.out.dl
        ((HX.out.o.below (BW4.out.trans ((C13.out.trans (b.mono C13.out.size)).mono BW4.out.size))).more (Nat.le_trans BW4.out.size (Nat.le_trans C13.out.size b.size))) ((HX.out.d.below (BW4.out.trans ((C13.out.trans (b.mono C13.out.size)).mono BW4.out.size))).more (Nat.le_trans BW4.out.size (Nat.le_trans C13.out.size b.size))))
      have KT5 := hide (fun (W1 : World) => taken_any W1 X5 (othH h ao co ad cd) HV5.out)
      have HK13 := hide (fun (W1 : World) (b : Below W13.heap.size W13 W1) => (⟨(HKK.out W1 (C13.out.trans (b.mono C13.out.size))).1, (HKK.out W1 (C13.out.trans (b.mono C13.out.size))).2.1, (b.block w12.heap.size ht13).trans t13⟩ : W1.heap[w.heap.size]? = some (.cells X 27 (0, 0)) ∧ W1.heap[w4.heap.size]? = some (.cells V 28 (0, 0)) ∧ W1.heap[w12.heap.size]? = some (.cells X5 28 (0, 0))))
      obtain ⟨r13, s13, t13'⟩ := HK13.out W13 (Below.refl _ _)
      rw [← hW13]
      clear hW13 b13 hY1 hY2 ht13 t13
      go_region_held3 (fun w' => w'.heap[w.heap.size]? = some (.cells X 27 (0, 0)) ∧ w'.heap[w4.heap.size]? = some (.cells V 28 (0, 0)) ∧ w'.heap[w12.heap.size]? = some (.cells X5 28 (0, 0)))
        (first
          | exact ⟨r13, s13, t13'⟩
          | exact ⟨r14, s14, t14⟩
          | exact ⟨r15, s15, t15⟩
          | exact ⟨r16, s16, t16⟩
          | exact ⟨r17, s17, t17⟩
          | exact ⟨r18, s18, t18⟩
          | fail)
        (first
          | (go_at_call 11; (with_reducible refine (KT5.out W13.drew).mono ?_); rintro e w14 ⟨rfl, b14⟩; have D14 : Hid (Below W13.heap.size W13 w14) := hide (below_undrew' b14); obtain ⟨r14, s14, t14⟩ := HK13.out w14 D14.out; clear b14)
          | (go_at_call 10; (with_reducible refine (KM5.out w14 D14.out).mono ?_); rintro e w15 ⟨rfl, b15⟩; have D15 : Hid (Below W13.heap.size W13 w15) := hide (D14.out.trans (b15.mono D14.out.size)); obtain ⟨r15, s15, t15⟩ := HK13.out w15 D15.out; clear b15)
          | (go_at_call 11; (with_reducible refine (KT.out w15).mono ?_); rintro e w16 ⟨rfl, b16⟩; have D16 : Hid (Below W13.heap.size W13 w16) := hide (D15.out.trans (b16.mono D15.out.size)); obtain ⟨r16, s16, t16⟩ := HK13.out w16 D16.out; clear b16)
          | (go_at_call 10; (with_reducible refine (KM.out w16 (C13.out.trans (D16.out.mono C13.out.size))).mono ?_); rintro e w17 ⟨rfl, b17⟩; have D17 : Hid (Below W13.heap.size W13 w17) := hide (D16.out.trans (b17.mono D16.out.size)); obtain ⟨r17, s17, t17⟩ := HK13.out w17 D17.out; clear b17)
          | (go_at_call 14; (with_reducible refine (knownI_any w17).mono ?_); rintro e w18 ⟨rfl, b18⟩; have D18 : Hid (Below W13.heap.size W13 w18) := hide (D17.out.trans (b18.mono D17.out.size)); obtain ⟨r18, s18, t18⟩ := HK13.out w18 D18.out; clear b18)
          | fail)
      all_goals (
        go_wp2
        go_ret
        exact ⟨rfl, BW4.out.trans ((C13.out.trans (D18.out.mono C13.out.size)).mono BW4.out.size)⟩)
    · have hE1 : (E != 0) = true := by simpa using hE0
      go_wp2_with fail
      refine (knownI_any w10).mono ?_
      rintro e w11 ⟨rfl, b11⟩
      have C11 : Hid (Below w.heap.size w w11) := hide ((BW4.out.trans (C10.out.mono BW4.out.size)).trans (b11.mono (Nat.le_trans BW4.out.size C10.out.size)))
      clear b11
      go_wp2
      go_ret
      exact ⟨rfl, C11.out⟩)
end Go.Proofs.Ytnhcfmmmghghgaa
