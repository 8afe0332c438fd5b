/-
  The walk of the statement SegmentPuts.
-/
import Derived.Test.YtcfckhdohcaffaaLt
import Derived.Test.YtcfckhdohcaffaaSpl
import Derived.Test.YtcfckhdohcaffaaKcu
import Derived.Deep.RegionHeld3
namespace Go.Proofs.Ytcfckhdohcaffaa
open Go.RowKit
attribute [local go_sem ↓] exec_span exec_put exec_build heap_alloc_new heap_old heap_alloc_drew
attribute [local go_sem] spanQ_ptr spanC_some heap_of_drew heap_of_drewN rs_arr rs_ad rs_ip rs_rip rs_seg rs_rseg putAt_ptr putOk_ptr oldOk_some World.setRow_alloc_new setRow_drew
set_option maxRecDepth 100000
set_option linter.unusedVariables false
set_option linter.unusedSimpArgs false

theorem OwnB.cv5 {w : World} {base : Nat} {A : Option Addr} {c : Nat} {l : List UInt8} (h : OwnB w base (.slice A l.length c) l) : (convert 25 9 (.slice A l.length c)).run Try.prog w = .ok (.string ⟨l.toArray⟩) w := by
  obtain ⟨A', c', e, hlc, hby, -⟩ := h.shape
  cases e
  exact conv_any A c l w.heap.size w hby
theorem OwnB.on {w w' : World} {base : Nat} {v : Value} {l : List UInt8} (h : OwnB w base v l) (b : Below w.heap.size w w') : OwnB w' base v l := World.ownsRow.kept h (below_row b none) (Classical.em _)
/-- what comes back of a segment that was laid. -/
theorem backS {w w' : World} {h h' : Ip} {s : Sg} {O D : List UInt8} {Y : Array Value} (he : putE h s = 0) (hh : gotS h' (segB h s O D) = gotS h (segB h s O D)) (ho : optS h' (segB h s O D) = optS h (segB h s O D)) (hd : datS h' (segB h s O D) = datS h (segB h s O D)) (hO : O.length = s.no) (hD : D.length = s.nd) (hq : s.q < 4294967296) (hk : s.k < 4294967296) (hs : SegIn w w' h' (segB h s O D) Y) :
    ∃ ao co ad cd, SgV Y (othS s ao co ad cd) ∧ Byt w' w'.heap.size ao O ∧ Byt w' w'.heap.size ad D := by
  obtain ⟨ao, co, ad, cd, hV, g1, g2⟩ := hs
  rw [hh] at hV
  obtain ⟨⟨ao', co', hg, hor⟩, e1, e2⟩ := gotS_of he hO hD hq hk ao ad co cd
  rw [hg] at hV
  rw [ho, e1] at g1
  rw [hd, e2] at g2
  refine ⟨ao', co', ad, cd, hV, ?_, g2.1⟩
  rcases hor with ⟨rfl, rfl⟩ | ⟨rfl, rfl, h0⟩
  · exact g1.1
  · rw [h0]; exact Byt.nil _ _ _

set_option maxHeartbeats 8000000 in
theorem segmentPuts_any (w : World) (X : Array Value) (h : Ip) (O D : List UInt8) (p : InP w X h O D) (Y : Array Value) (s : Sg) (O2 D2 : List UInt8) (q : InS w Y s O2 D2) :
    Calls Try.prog 3 #[.agg X, .agg Y] w fun e w' => e = .returned (.bool true) ∧ Below w.heap.size w w' := by
  obtain ⟨W, hW⟩ : ∃ W, (w.alloc (.cells X 27)).alloc (.cells Y 30) = W := ⟨_, rfl⟩
  obtain ⟨r1, r2, hz, hbW⟩ := two_packs w X _ _ _ W hW
  have hxs := p.x.size
  have hxr := p.x.x0
  have hxo := p.x.one
  have hys := q.x.size
  have hyr := q.x.x0
  have KW := hide (fun (W1 : World) (b : Below w.heap.size w W1) => (p.below b).within)
  have KG := hide (fun (W1 : World) (b : Below w.heap.size w W1) => (q.below b).given)
  have KPut := hide (putWG p q)
  have KR := hide (fun (W1 : World) (b : Below w.heap.size w W1) => refputS_any W1 X Y h s p.x q.x O2 D2 (q.below b).o q.ol q.on (q.below b).d q.dl q.dn (Nat.le_trans q.dm (by decide)))
  have HP := hide p
  have HQ := hide q
  have HB := hide hbW
  have HZ := hide hz
  have HW := hide hW
  have HR1 := hide r1
  have HR2 := hide r2
  obtain ⟨E, hE⟩ : ∃ E, E = putE h s := ⟨_, rfl⟩
  obtain ⟨L, hL⟩ : ∃ L, L = putB h s O2 D2 := ⟨_, rfl⟩
  rw [← hE, ← hL] at KPut KR
  have HE := hide hE
  have HL := hide hL
  clear hz hbW hW hE hL p q
  go_enter Try.func3, Try.ntmps3
  go_upto_region 1 with (fail)
  change Code.wp _ _ _ _ ((w.alloc (.cells X 27)).alloc (.cells Y 30))
  rw [HW.out]
  go_wp2_with fail
  refine (KG.out W HB.out).mono ?_
  rintro e w4 ⟨g5, g6, rfl, L5, L6, -, -, b4⟩
  have B4 : Hid (Below W.heap.size W w4) := hide b4
  have hV : SgV (sgL (givS s g5 g6)).toArray (givS s g5 g6) := ⟨rfl, HQ.out.x.hq, HQ.out.x.hk⟩
  have HV := hide hV
  have hVs := hV.size
  have hVr := hV.x0
  have hVo := hV.one
  have KPut := hide (fun W1 g1 g2 => KPut.out W1 g1 g2 g5 g6)
  obtain ⟨V, hVV⟩ : ∃ V, V = (sgL (givS s g5 g6)).toArray := ⟨_, rfl⟩
  rw [← hVV] at hVs hVr hVo HV KPut ⊢
  obtain ⟨W4, hW4⟩ : ∃ W4, w4.alloc (.cells V 31) = W4 := ⟨_, rfl⟩
  have b44 : Below w4.heap.size w4 W4 := by rw [← hW4]; exact (Below.refl _ _).alloc (Nat.le_refl _) _
  have rV : W4.heap[w4.heap.size]? = some (.cells V 31 (0, 0)) := by rw [← hW4]; exact heap_alloc_new w4 _
  have hzW4 : W4.heap.size = w4.heap.size + 1 := by rw [← hW4]; simp
  have C4 : Below W.heap.size W W4 := B4.out.trans (b44.mono B4.out.size)
  have BW4 : Hid (Below w.heap.size w W4) := hide (HB.out.trans (C4.mono HB.out.size))
  have rX := (C4.block w.heap.size (by have := HZ.out; omega)).trans r1
  have rY := (C4.block (w.heap.size + 1) (by have := HZ.out; omega)).trans r2
  have L5' : Lentd W4 g5 O2 := L5.below b44 L5.lt
  have L6' : Lentd W4 g6 D2 := L6.below b44 L6.lt
  have HKK := hide (fun (W1 : World) (b : Below W4.heap.size W4 W1) => (⟨(b.block w.heap.size (Array.getElem?_eq_some_iff.1 rX).1).trans rX, (b.block (w.heap.size + 1) (Array.getElem?_eq_some_iff.1 rY).1).trans rY, (b.block w4.heap.size (by omega)).trans rV, L5'.below b L5'.lt, L6'.below b L6'.lt⟩ : W1.heap[w.heap.size]? = some (.cells X 27 (0, 0)) ∧ W1.heap[w.heap.size + 1]? = some (.cells Y 30 (0, 0)) ∧ W1.heap[w4.heap.size]? = some (.cells V 31 (0, 0)) ∧ Lentd W1 g5 O2 ∧ Lentd W1 g6 D2))
  have HG56 : Hid (g5 < W4.heap.size ∧ g6 < W4.heap.size) := hide ⟨L5'.lt, L6'.lt⟩
  have KT := hide (fun (W1 : World) => takenS_any W1 V (givS s g5 g6) HV.out)
  have KM := hide (fun (W1 : World) (b : Below W4.heap.size W4 W1) => refsameS_any W1 V Y (givS s g5 g6) s.ao s.ad s.co s.cd HV.out HQ.out.x O2 D2
    ((HKK.out W1 b).2.2.2.1.byt (Nat.lt_of_lt_of_le HG56.out.1 b.size)) HQ.out.ol ((HKK.out W1 b).2.2.2.2.byt (Nat.lt_of_lt_of_le HG56.out.2 b.size)) HQ.out.dl
    ((HQ.out.o.below (BW4.out.trans (b.mono BW4.out.size))).more (Nat.le_trans BW4.out.size b.size)) ((HQ.out.d.below (BW4.out.trans (b.mono BW4.out.size))).more (Nat.le_trans BW4.out.size b.size)))
  clear hVV hV b4 L5 L6 b44 rV hzW4 C4 rX rY L5' L6' r1 r2
  dsimp only
  go_upto_region 2 with (fail)
  clear hW4
  obtain ⟨x4, y4, v4, -, -⟩ := HKK.out W4 (Below.refl _ _)
  have x4d : W4.drew.heap[w.heap.size]? = some (.cells X 27 (0, 0)) := x4
  have v4d : W4.drew.heap[w4.heap.size]? = some (.cells V 31 (0, 0)) := v4
  go_region_held3 (fun w' => w'.heap[w.heap.size]? = some (.cells X 27 (0, 0)) ∧ w'.heap[w4.heap.size]? = some (.cells V 31 (0, 0)))
    (first | exact ⟨x4, v4⟩ | exact ⟨x4d, v4d⟩ | exact ⟨x5, v5⟩ | exact ⟨x6, v6⟩ | fail)
    (first
      | (go_at_call 9; (with_reducible refine (KW.out W4.drew BW4.out.drew).mono ?_); rintro e w5 ⟨g1, g2, rfl, L1, L2, -, -, b5⟩
         have C5 : Hid (Below W4.heap.size W4 w5) := hide (below_undrew' b5)
         obtain ⟨x5, y5, v5, l5, l6⟩ := HKK.out w5 C5.out
         have KPP := hide (KPut.out w5 g1 g2 l5 l6)
         clear b5 L1 L2 l5 l6 y5)
      | (go_at_call 8; (with_reducible refine (KPP.out).mono ?_); rintro e w6 ⟨A, c, rfl, o6, b6⟩
         have C6 : Hid (Below W4.heap.size W4 w6) := hide (C5.out.trans (b6.mono C5.out.size))
         have P6 : Hid (OwnB w6 W4.heap.size (.slice A L.length c) L) := hide (own_low o6 C5.out.size)
         obtain ⟨x6, y6, v6, -, -⟩ := HKK.out w6 C6.out
         clear b6 o6)
      | fail)
  all_goals (
    clear x4 y4 v4 x4d v4d x5 v5
    go_wp2_with fail
    refine (KR.out w6 (BW4.out.trans (C6.out.mono BW4.out.size))).mono ?_
    rintro e w7 ⟨A2, c2, rfl, o7, b7⟩
    have C7 : Hid (Below W4.heap.size W4 w7) := hide (C6.out.trans (b7.mono C6.out.size))
    have P7 : Hid (OwnB w7 W4.heap.size (.slice A L.length c) L) := hide (P6.out.on b7)
    have O7 : Hid (OwnB w7 w6.heap.size (.slice A2 L.length c2) L) := hide o7
    obtain ⟨x7, y7, v7, -, -⟩ := HKK.out w7 C7.out
    have cx7 := P7.out.cv5
    have cy7 := O7.out.cv5
    have cx7d : (convert 25 9 (.slice A L.length c)).run Try.prog w7.drew = .ok (.string ⟨L.toArray⟩) w7.drew := (P7.out.drewN 1).cv5
    have cy7d : (convert 25 9 (.slice A2 L.length c2)).run Try.prog w7.drew = .ok (.string ⟨L.toArray⟩) w7.drew := (O7.out.drewN 1).cv5
    have y7d : w7.drew.heap[w.heap.size + 1]? = some (.cells Y 30 (0, 0)) := y7
    have v7d : w7.drew.heap[w4.heap.size]? = some (.cells V 31 (0, 0)) := v7
    clear o7 b7 x6 y6 v6
    dsimp only
    go_wp2_with fail
    go_region_held3 (fun w' => w'.heap[w.heap.size + 1]? = some (.cells Y 30 (0, 0)) ∧ w'.heap[w4.heap.size]? = some (.cells V 31 (0, 0)) ∧ (convert 25 9 (.slice A L.length c)).run Try.prog w' = .ok (.string ⟨L.toArray⟩) w' ∧ (convert 25 9 (.slice A2 L.length c2)).run Try.prog w' = .ok (.string ⟨L.toArray⟩) w')
      (first
        | exact ⟨y7d, v7d, cx7d, cy7d⟩
        | exact ⟨y8, v8, cx8, cy8⟩
        | exact ⟨y9, v9, cx9, cy9⟩
        | fail)
      (first
        | (go_at_call 12; (with_reducible refine (KT.out w7.drew).mono ?_); rintro e w8 ⟨rfl, b8⟩; have C8 : Hid (Below W4.heap.size W4 w8) := hide (C7.out.trans ((below_undrew' b8).mono C7.out.size)); obtain ⟨x8, y8, v8, -, -⟩ := HKK.out w8 C8.out; have P8 : Hid (OwnB w8 W4.heap.size (.slice A L.length c) L) := hide (P7.out.on (below_undrew' b8)); have O8 : Hid (OwnB w8 w6.heap.size (.slice A2 L.length c2) L) := hide (O7.out.on (below_undrew' b8)); have cx8 := P8.out.cv5; have cy8 := O8.out.cv5; clear b8 x8)
        | (go_at_call 11; (with_reducible refine (KM.out w8 C8.out).mono ?_); rintro e w9 ⟨rfl, b9⟩; have C9 : Hid (Below W4.heap.size W4 w9) := hide (C8.out.trans (b9.mono C8.out.size)); obtain ⟨x9, y9, v9, -, -⟩ := HKK.out w9 C9.out; have P9 : Hid (OwnB w9 W4.heap.size (.slice A L.length c) L) := hide (P8.out.on b9); have O9 : Hid (OwnB w9 w6.heap.size (.slice A2 L.length c2) L) := hide (O8.out.on b9); have cx9 := P9.out.cv5; have cy9 := O9.out.cv5; clear b9)
        | fail)
    all_goals (
      clear x7 y7 v7 y7d v7d cx7 cy7 cx7d cy7d y8 v8 cx8 cy8 cx9 cy9
      by_cases hE0 : E = 0
      · subst hE0
        obtain ⟨hp, sp, hr, -, hsz⟩ := putE_zero HE.out.symm
        have hLs : L = segB h s O2 D2 := by rw [HL.out]; unfold putB; rw [if_pos HE.out.symm]
        have hLn : L.length = hdN s + s.nd := by rw [hLs]; exact len_segB hr HQ.out.ol HQ.out.dl
        have hL8 : 8 ≤ L.length := by rw [hLn]; unfold hdN; split <;> omega
        have hL65 : L.length ≤ 65535 := by rw [hLn]; exact hsz
        have h0 : segE h L = 0 := by rw [hLs]; exact segE_laid HE.out.symm HP.out.x.ls HP.out.x.ld HQ.out.ol HQ.out.dl HQ.out.x.hq HQ.out.x.hk
        have HLS := hide hLs
        have HL8 := hide hL8
        have HL65 := hide hL65
        have HS0 := hide h0
        clear hp sp hr hsz hLs hLn hL8 hL65 h0
        go_wp2_with fail
        refine (spoil_any w9 W4.heap.size A L.length c P9.out.x).mono ?_
        rintro e w11 ⟨rfl, gr11, -⟩
        have C11 : Hid (Below W4.heap.size W4 w11) := hide (C9.out.grown gr11 C9.out.size (fun k hk => (World.ownsRow.lt P9.out k hk).1))
        have O11 : Hid (OwnB w11 w6.heap.size (.slice A2 L.length c2) L) := hide (World.ownsRow.kept O9.out gr11 (by
          rcases O9.out.2 with ⟨e, -⟩ | ⟨g, cap, cur, e, hb5, -⟩
          · exact .inl (by rw [e]; rfl)
          · refine .inr fun e2 => ?_
            rw [e] at e2
            have h5 := (World.ownsRow.lt P6.out g (by rw [← e2]; rfl)).2
            omega))
        obtain ⟨x11, y11, v11, -, -⟩ := HKK.out w11 C11.out
        obtain ⟨g, cap, hv, hlc, hg, hgl⟩ := O11.out.pos (by have := HL8.out; omega)
        cases hv
        have rp := heap_alloc_new w11 (.cells X 27)
        have k42 := (HP.out.x.cells rp).c42
        have f42 := frozen_of_row _ w11.heap.size 42 _ _ rp
        obtain ⟨r12, g12⟩ := set_dat HP.out.x rp (some ⟨g, 0, none⟩) L.length c2
        have D12 : Below w11.heap.size w11 ((w11.alloc (.cells X 27)).setCell ⟨w11.heap.size, 42, none⟩ (.slice (some ⟨g, 0, none⟩) L.length c2)) := ((Below.refl _ _).alloc (Nat.le_refl _) _).grown g12 (by simp) (fun k e => by cases e; exact Nat.le_refl _)
        obtain ⟨w12, hw12⟩ : ∃ w12, (w11.alloc (.cells X 27)).setCell ⟨w11.heap.size, 42, none⟩ (.slice (some ⟨g, 0, none⟩) L.length c2) = w12 := ⟨_, rfl⟩
        rw [hw12] at r12 D12
        obtain ⟨X2, hX2⟩ : ∃ X2, X2 = (ipL (datH h (some ⟨g, 0, none⟩) L.length c2)).toArray := ⟨_, rfl⟩
        rw [← hX2] at r12
        have C12 : Hid (Below W4.heap.size W4 w12) := hide (C11.out.trans (D12.mono C11.out.size))
        have PI : InP w12 X2 (datH h (some ⟨g, 0, none⟩) L.length c2) O L := HP.out.datM (BW4.out.trans (C12.out.mono BW4.out.size)) hX2 (((OwnB.byt O11.out hgl).below D12).more D12.size) hlc (by have := HL65.out; omega) (fun e => by cases e)
        have h2s := PI.x.size
        have h20 := PI.x.x0
        have KW2 := hide PI.within
        have HPI := hide PI
        clear rp g12 D12 PI hX2 hg hgl hlc gr11 y11 v11
        dsimp only
        go_wp2_with fail
        clear hw12 k42 f42
        refine KW2.out.mono ?_
        rintro e w13 ⟨g1', g2', rfl, L1, L2, -, -, b13⟩
        have C13 : Hid (Below W4.heap.size W4 w13) := hide (C12.out.trans (b13.mono C12.out.size))
        have K := parseG HPI.out w13 g1' g2' L2
        obtain ⟨V2, hV2⟩ : ∃ V, V = (ipL (givH (datH h (some ⟨g, 0, none⟩) L.length c2) g1' g2')).toArray := ⟨_, rfl⟩
        rw [← hV2] at K ⊢
        have HK := hide K
        clear b13 L1 L2 hV2 K r12 x11
        dsimp only
        go_wp2_with fail
        refine HK.out.mono ?_
        rintro e w14 hq
        obtain ⟨Y5, rfl, hYs5, hYo5, hY05⟩ := hq.val
        obtain ⟨_, e', b14, -, hok⟩ := hq
        cases e'
        rw [segE_datM, HS0.out] at hok ⊢
        obtain ⟨ao, co, ad, cd, hV5, y1, y2⟩ := backS (h := h) HE.out.symm (by rfl) (by rfl) (by rfl) HQ.out.ol HQ.out.dl HQ.out.x.hq HQ.out.x.hk (by have := hok rfl; rw [HLS.out] at this; exact this)
        have C14 : Hid (Below W4.heap.size W4 w14) := hide (C13.out.trans (b14.mono C13.out.size))
        have HV5 := hide hV5
        have HY1 := hide y1
        have HY2 := hide y2
        clear hok hV5 y1 y2 b14 HK
        dsimp only
        go_upto_region 12 with (fail)
        obtain ⟨W13, hW13⟩ : ∃ W13, W13 = w14.alloc (.cells Y5 31) := ⟨_, rfl⟩
        have b15 : Below w14.heap.size w14 W13 := by rw [hW13]; exact (Below.refl _ _).alloc (Nat.le_refl _) _
        have t13 : W13.heap[w14.heap.size]? = some (.cells Y5 31 (0, 0)) := by rw [hW13]; exact heap_alloc_new w14 _
        have F13 : Hid (Below W4.heap.size W4 W13) := hide (C14.out.trans (b15.mono C14.out.size))
        have hY1 : Byt W13 W13.heap.size ao O2 := (HY1.out.below b15).more b15.size
        have hY2 : Byt W13 W13.heap.size ad D2 := (HY2.out.below b15).more b15.size
        have ht13 := (Array.getElem?_eq_some_iff.1 t13).1
        have KM5 := hide (fun (W1 : World) (b : Below W13.heap.size W13 W1) => refsameS_any W1 Y5 Y (othS s ao co ad cd) s.ao s.ad s.co s.cd HV5.out HQ.out.x O2 D2
          ((hY1.below b).more b.size) HQ.out.ol ((hY2.below b).more b.size) HQ.out.dl
          ((HQ.out.o.below (BW4.out.trans ((F13.out.trans (b.mono F13.out.size)).mono BW4.out.size))).more (Nat.le_trans BW4.out.size (Nat.le_trans F13.out.size b.size))) ((HQ.out.d.below (BW4.out.trans ((F13.out.trans (b.mono F13.out.size)).mono BW4.out.size))).more (Nat.le_trans BW4.out.size (Nat.le_trans F13.out.size b.size))))
        have KT5 := hide (fun (W1 : World) => takenS_any W1 Y5 (othS s ao co ad cd) HV5.out)
        have HK13 := hide (fun (W1 : World) (b : Below W13.heap.size W13 W1) => (⟨(HKK.out W1 (F13.out.trans (b.mono F13.out.size))).2.1, (HKK.out W1 (F13.out.trans (b.mono F13.out.size))).2.2.1, (b.block w14.heap.size ht13).trans t13⟩ : W1.heap[w.heap.size + 1]? = some (.cells Y 30 (0, 0)) ∧ W1.heap[w4.heap.size]? = some (.cells V 31 (0, 0)) ∧ W1.heap[w14.heap.size]? = some (.cells Y5 31 (0, 0))))
        obtain ⟨r13, s13, t13'⟩ := HK13.out W13 (Below.refl _ _)
        rw [← hW13]
        clear hW13 b15 hY1 hY2 ht13 t13
        go_region_held3 (fun w' => w'.heap[w.heap.size + 1]? = some (.cells Y 30 (0, 0)) ∧ w'.heap[w4.heap.size]? = some (.cells V 31 (0, 0)) ∧ w'.heap[w14.heap.size]? = some (.cells Y5 31 (0, 0)))
          (first
            | exact ⟨r13, s13, t13'⟩
            | exact ⟨r14, s14, t14⟩
            | exact ⟨r15, s15, t15⟩
            | exact ⟨r16, s16, t16⟩
            | exact ⟨r17, s17, t17⟩
            | exact ⟨r18, s18, t18⟩
            | fail)
          (first
            | (go_at_call 12; (with_reducible refine (KT5.out W13.drew).mono ?_); rintro e w15 ⟨rfl, b15⟩; have D14 : Hid (Below W13.heap.size W13 w15) := hide (below_undrew' b15); obtain ⟨r14, s14, t14⟩ := HK13.out w15 D14.out; clear b15)
            | (go_at_call 11; (with_reducible refine (KM5.out w15 D14.out).mono ?_); rintro e w16 ⟨rfl, b16⟩; have D15 : Hid (Below W13.heap.size W13 w16) := hide (D14.out.trans (b16.mono D14.out.size)); obtain ⟨r15, s15, t15⟩ := HK13.out w16 D15.out; clear b16)
            | (go_at_call 12; (with_reducible refine (KT.out w16).mono ?_); rintro e w17 ⟨rfl, b17⟩; have D16 : Hid (Below W13.heap.size W13 w17) := hide (D15.out.trans (b17.mono D15.out.size)); obtain ⟨r16, s16, t16⟩ := HK13.out w17 D16.out; clear b17)
            | (go_at_call 11; (with_reducible refine (KM.out w17 (F13.out.trans (D16.out.mono F13.out.size))).mono ?_); rintro e w18 ⟨rfl, b18⟩; have D17 : Hid (Below W13.heap.size W13 w18) := hide (D16.out.trans (b18.mono D16.out.size)); obtain ⟨r17, s17, t17⟩ := HK13.out w18 D17.out; clear b18)
            | (go_at_call 13; (with_reducible refine (knownS_any w18).mono ?_); rintro e w19 ⟨rfl, b19⟩; have D18 : Hid (Below W13.heap.size W13 w19) := hide (D17.out.trans (b19.mono D17.out.size)); obtain ⟨r18, s18, t18⟩ := HK13.out w19 D18.out; clear b19)
            | fail)
        all_goals (
          go_wp2
          go_ret
          exact ⟨rfl, BW4.out.trans ((F13.out.trans (D18.out.mono F13.out.size)).mono BW4.out.size)⟩)
      · have hE1 : (E != 0) = true := by simpa using hE0
        go_wp2_with fail
        refine (knownS_any w9).mono ?_
        rintro e w11 ⟨rfl, b11⟩
        have C11 : Hid (Below w.heap.size w w11) := hide ((BW4.out.trans (C9.out.mono BW4.out.size)).trans (b11.mono (Nat.le_trans BW4.out.size C9.out.size)))
        clear b11
        dsimp only
        go_wp2
        go_ret
        exact ⟨rfl, C11.out⟩))
end Go.Proofs.Ytcfckhdohcaffaa
