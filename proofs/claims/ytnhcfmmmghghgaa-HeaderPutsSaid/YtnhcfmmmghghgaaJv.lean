/-
  The walk of the document's Put: packets of six, and all.
-/
import Derived.Test.YtnhcfmmmghghgaaJs
import Derived.Test.YtnhcfmmmghghgaaBits
namespace Go.Proofs.Ytnhcfmmmghghgaa
open Go.RowKit
attribute [local go_sem ↓] exec_span exec_put exec_build heap_alloc_new heap_old
attribute [local go_sem] spanQ_ptr spanC_some heap_of_drew heap_of_drewN rs_arr rs_ad rs_ip rs_rip putAt_ptr putOk_ptr oldOk_some World.setRow_alloc_new
set_option maxRecDepth 100000
set_option linter.unusedVariables false
set_option linter.unusedSimpArgs false

theorem or96 : ∀ {q : Nat}, q < 16 → bits BinOp.or IntKind.i64 96 (q : Int) = 96 + (q : Int) := by decide
set_option maxHeartbeats 4000000 in
theorem refput6_any (w : World) (X : Array Value) (h : Ip) (O D : List UInt8) (p : InP w X h O D) (hv : h.v = true) :
    Calls Try.prog 9 #[.agg X] w fun e w' => ∃ A c, e = .returned (.tuple #[.slice A (pktB h O D).length c, .int .i64 (pktE h)]) ∧ OwnB w' w.heap.size (.slice A (pktB h O D).length c) (pktB h O D) ∧ Below w.heap.size w w' := by
  obtain ⟨W, hW, h1, hz, hb⟩ := one_block w (.cells X 27)
  have hxs := p.x.size
  have hxr := p.x.x0
  have hno := Nat.le_trans p.om (show 140737488351232 ≤ 140737488355328 by decide)
  have KR := hide (fun (W1 : World) => refrightH_any W1 X h p.x hno)
  have KS := hide (fun (W1 : World) => refsizeH_any W1 X h p.x hno)
  have hkeep : ∀ W1 : World, Below W.heap.size W W1 → W1.heap[w.heap.size]? = some (.cells X 27 (0, 0)) ∧ IpC W1 w.heap.size h := fun W1 hb1 => by
    have hh := (hb1.block w.heap.size (by omega)).trans h1
    exact ⟨hh, p.x.cells hh⟩
  have HK := hide hkeep
  have HB := hide hb
  have HZ := hide hz
  have HP := hide p
  have HV : Hid (true = h.v) := hide hv.symm
  clear hv
  have aS : AdV (adL h.sv h.sb).toArray h.sv h.sb := AdV.mk' p.x.ls
  have aD : AdV (adL h.dv h.db).toArray h.dv h.db := AdV.mk' p.x.ld
  obtain ⟨SA, hSA⟩ : ∃ S, S = (adL h.sv h.sb).toArray := ⟨_, rfl⟩
  obtain ⟨DA, hDA⟩ : ∃ S, S = (adL h.dv h.db).toArray := ⟨_, rfl⟩
  have hsrc := p.x.src
  have hdst := p.x.dst
  rw [← hSA] at hsrc aS
  rw [← hDA] at hdst aD
  have KA := hide (fun (W1 : World) => refbytes_any W1 SA h.sv h.sb aS)
  have KB := hide (fun (W1 : World) => refbytes_any W1 DA h.dv h.db aD)
  obtain ⟨sB, hsB⟩ : ∃ l, l = byB h.sv h.sb := ⟨_, rfl⟩
  obtain ⟨dB, hdB⟩ : ∃ l, l = byB h.dv h.db := ⟨_, rfl⟩
  rw [← hsB] at KA
  rw [← hdB] at KB
  have HsB := hide hsB
  have HdB := hide hdB
  clear hSA hDA aS aD hsB hdB
  obtain ⟨S, hS⟩ : ∃ S, S = sizeN h := ⟨_, rfl⟩
  obtain ⟨R, hR⟩ : ∃ R, R = rightH h := ⟨_, rfl⟩
  simp only [sizeH_nat] at KS
  rw [← hS] at KS
  rw [← hR] at KR
  have HS := hide hS
  have HR := hide hR
  have hSb : S ≤ 140737488355400 := by rw [hS]; unfold sizeN; split <;> omega
  have hndb := p.dm
  obtain ⟨nd, hnd⟩ : ∃ n, n = h.nd := ⟨_, rfl⟩
  rw [← hnd] at hndb
  have HND := hide hnd
  clear hS hR hkeep hb p hnd hno hz
  cases R
  · have hE : Hid (pktE h = 1) := hide (by unfold pktE; rw [← HR.out]; rfl)
    have hBB : Hid (pktB h O D = []) := hide (by unfold pktB; rw [hE.out]; rfl)
    rw [hE.out, hBB.out]
    go_enter Try.func9, Try.ntmps9
    go_wp2_with fail
    refine (KR.out W).mono ?_
    rintro e w1 ⟨rfl, b1⟩
    have B1 := hide b1
    clear b1
    dsimp only
    go_wp2
    go_ret2
    exact ⟨none, 0, rfl, OwnB.nil _ _, HB.out.trans (B1.out.mono HB.out.size)⟩
  · go_enter Try.func9, Try.ntmps9
    go_wp2_with fail
    refine (KR.out W).mono ?_
    rintro e w1 ⟨rfl, b1⟩
    have B1 := hide b1
    obtain ⟨r1, c0, c1, c18, c35, c36, c37, c38, c39, c40, c41, c42⟩ := HK.out w1 b1
    rw [← HND.out] at c42
    clear b1
    dsimp only
    have hw1 : IntKind.i64.wrap (65535 - (S : Int)) = 65535 - (S : Int) := IntWalk.i64_in _ (by omega)
    go_wp2_with fail
    go_region_held3 (fun w' => w'.heap[w.heap.size]? = some (.cells X 27 (0, 0)) ∧ w'.cell? ⟨w.heap.size, 42, none⟩ = some (.slice h.ad nd h.cd))
      (first
        | exact ⟨r1, c42⟩
        | exact ⟨r2, d42⟩
        | fail)
      (first
        | (go_at_call 13; (with_reducible refine (KS.out w1.drew).mono ?_); rintro e w2 ⟨rfl, b2⟩; have B2 : Hid (Below W.heap.size W w2) := hide (B1.out.drew.trans (b2.mono B1.out.drew.size)); obtain ⟨r2, d0, d1, d18, d35, d36, d37, d38, d39, d40, d41, d42⟩ := HK.out w2 B2.out; rw [← HND.out] at d42; clear b2)
        | fail)
    all_goals (
      by_cases hbig : 65535 - (S : Int) < (nd : Int)
      · have hE : Hid (pktE h = 3) := hide (by unfold pktE; rw [← HR.out, if_pos rfl, ← HS.out, ← HND.out, if_pos (by omega)])
        have hBB : Hid (pktB h O D = []) := hide (by unfold pktB; rw [hE.out]; rfl)
        go_wp2
        go_ret2
        rw [hE.out, hBB.out]
        exact ⟨none, 0, rfl, OwnB.nil _ _, HB.out.trans (B2.out.mono HB.out.size)⟩
      · have hE : Hid (pktE h = 0) := hide (by unfold pktE; rw [← HR.out, if_pos rfl, ← HS.out, ← HND.out, if_neg (by omega)])
        go_wp2_with fail
        refine (KA.out w2).mono ?_
        rintro e w3 ⟨⟨aA, aC, rfl, ay, al, an⟩, b3⟩
        have B3 : Hid (Below W.heap.size W w3) := hide (B2.out.trans (b3.mono B2.out.size))
        obtain ⟨r3, e0, e1, e18, e35, e36, e37, e38, e39, e40, e41, e42⟩ := HK.out w3 B3.out
        have HAy := hide ay
        have HAl := hide al
        have HAn := hide an
        clear b3 ay al an
        dsimp only
        go_wp2_with fail
        refine (KB.out w3).mono ?_
        rintro e w4 ⟨⟨dA, dC, rfl, dy, dl, dn⟩, b4⟩
        have B4 : Hid (Below W.heap.size W w4) := hide (B3.out.trans (b4.mono B3.out.size))
        have HAy4 : Hid (Byt w4 w4.heap.size aA sB) := hide ((HAy.out.below b4).more b4.size)
        have HDy := hide dy
        have HDl := hide dl
        have HDn := hide dn
        obtain ⟨r4, f0, f1, f18, f35, f36, f37, f38, f39, f40, f41, f42⟩ := HK.out w4 B4.out
        clear b4 dy dl dn HAy r1 c0 c1 c18 c35 c36 c37 c38 c39 c40 c41 c42 r2 d0 d1 d18 d35 d36 d37 d38 d39 d40 d41 d42 r3 e0 e1 e18 e35 e36 e37 e38 e39 e40 e41 e42
        dsimp only
        rw [← HV.out] at f0
        have hrf := (right_facts HR.out.symm).2.2.2.1 HV.out.symm
        have hrt := (right_facts HR.out.symm).2.2.1
        obtain ⟨T, hT⟩ : ∃ T : Nat, h.tos = (T : Int) := ⟨h.tos.toNat, by omega⟩
        obtain ⟨Lb, hLb⟩ : ∃ T : Nat, h.lab = (T : Int) := ⟨h.lab.toNat, by omega⟩
        have hT255 : T ≤ 255 := by omega
        have hL20 : Lb ≤ 1048575 := by omega
        obtain ⟨tq, htq⟩ : ∃ q : Nat, q = T / 16 := ⟨_, rfl⟩
        obtain ⟨lq, hlq⟩ : ∃ q : Nat, q = Lb / 65536 := ⟨_, rfl⟩
        have htqi : (T : Int) / 16 = (tq : Int) := by omega
        have hlqi : (Lb : Int) / 65536 = (lq : Int) := by omega
        have hwtq : IntKind.i64.wrap (tq : Int) = (tq : Int) := IntWalk.i64_in _ (by omega)
        have hwlq : IntKind.i64.wrap (lq : Int) = (lq : Int) := IntWalk.i64_in _ (by omega)
        have hw16 : IntKind.i64.wrap ((T : Int) * 16) = (T : Int) * 16 := IntWalk.i64_in _ (by omega)
        have hor1 := or96 (q := tq) (by omega)
        have hor2 : bits .or .i64 ((T : Int) * 16) (lq : Int) = (T : Int) * 16 + (lq : Int) := by
          have e := i64_or_join 4 (T * 16) lq (by omega) (by omega) (by omega) (by omega)
          simpa using e
        obtain ⟨u0, hu0⟩ : ∃ u, u = b8 (96 + (tq : Int)) := ⟨_, rfl⟩
        obtain ⟨u1, hu1⟩ : ∃ u, u = b8 ((T : Int) * 16 + (lq : Int)) := ⟨_, rfl⟩
        obtain ⟨u3, hu3⟩ : ∃ u, u = b8 h.p := ⟨_, rfl⟩
        obtain ⟨u4, hu4⟩ : ∃ u, u = b8 h.ttl := ⟨_, rfl⟩
        have q0 := b8_eq (96 + (tq : Int))
        have q1 := b8_eq ((T : Int) * 16 + (lq : Int))
        have q3 := b8_eq h.p
        have q4 := b8_eq h.ttl
        rw [← hu0] at q0
        rw [← hu1] at q1
        rw [← hu3] at q3
        rw [← hu4] at q4
        have HU0 : Hid (u0 = UInt8.ofNat (96 + T / 16)) := hide (by
          rw [hu0, ← htq, show (96 : Int) + (tq : Int) = ((96 + tq : Nat) : Int) by omega, b8_nat])
        have HU1 : Hid (u1 = UInt8.ofNat (T * 16 + Lb / 65536)) := hide (by
          rw [hu1, ← hlq, show (T : Int) * 16 + (lq : Int) = ((T * 16 + lq : Nat) : Int) by omega, b8_nat])
        have HU3 := hide hu3
        have HU4 := hide hu4
        have HT := hide hT
        have HLB := hide hLb
        have f37' : w4.cell? ⟨w.heap.size, 37, none⟩ = some (.int .i64 (T : Int)) := by rw [← hT]; exact f37
        have f40' : w4.cell? ⟨w.heap.size, 40, none⟩ = some (.int .i64 (Lb : Int)) := by rw [← hLb]; exact f40
        have hsB4 : sB = h.sb := by
          have hr : rightL h.sv h.sb = true := by have := HR.out.symm; unfold rightH at this; revert this; cases rightL h.sv h.sb <;> simp
          have hsv : h.sv = true := by have := HR.out.symm; rw [HV.out]; unfold rightH at this; revert this; cases h.sv <;> cases h.v <;> simp
          rw [HsB.out]; unfold byB; rw [hr, hsv, if_pos rfl]; exact List.take_of_length_le (by rw [HP.out.x.ls]; decide)
        have hdB4 : dB = h.db := by
          have hr : rightL h.dv h.db = true := by have := HR.out.symm; unfold rightH at this; revert this; cases rightL h.dv h.db <;> simp
          have hsv : h.dv = true := by have := HR.out.symm; rw [HV.out]; unfold rightH at this; revert this; cases h.dv <;> cases h.v <;> simp
          rw [HdB.out]; unfold byB; rw [hr, hsv, if_pos rfl]; exact List.take_of_length_le (by rw [HP.out.x.ld]; decide)
        have HSB4 := hide hsB4
        have HDB4 := hide hdB4
        have HSL : Hid (sB.length = 16) := hide (by rw [hsB4, HP.out.x.ls])
        have HDL : Hid (dB.length = 16) := hide (by rw [hdB4, HP.out.x.ld])
        have HK4 := hide (fun (W1 : World) (b : Below w4.heap.size w4 W1) => HK.out W1 (B4.out.trans (b.mono B4.out.size)))
        clear hu0 hu1 hu3 hu4 htq hlq hT hLb hT255 hL20 hrf hrt f37 f40 hsB4 hdB4
        go_wp2_with (at_builtin; refine wpList_app_bytes rfl (.tmp 35) (.tmp 49) rfl w4.heap.size (.slice none 0 0) [] [u0, u1] (w4.heap.size + 1) 2 (some ⟨w4.heap.size, 0, none⟩) rfl rfl (OwnB.nil _ _) (by exact Byt.lit w4 [u0, u1] _ _ (0, 0) rfl) (fun e => by cases e) (by simp) (by simp) ?_)
        intro v6 w6 hown6 hgr6 hat6
        have C6 : Hid (Below w4.heap.size w4 w6) := hide (((Below.refl _ _).alloc (Nat.le_refl _) _).grown hgr6 (by simp) (fun k hk => by simp [Value.ownBlock] at hk))
        have O6 : Hid (OwnB w6 w4.heap.size v6 [u0, u1]) := hide hown6
        obtain ⟨r6, c0, c1, c18, c35, c36, c37, c38, c39, c40, c41, c42⟩ := HK4.out w6 C6.out
        clear hown6 hgr6 hat6 r4 f0 f1 f18 f35 f36 f37' f38 f39 f40' f41 f42 c0 c1 c18 c35 c36 c37 c38 c39 c41 c42
        go_wp2_with fail
        refine (put2_any w6 w4.heap.size v6 _ h.lab O6.out C6.out.size (by simp)).mono ?_
        rintro e w8 ⟨v8, rfl, O8, b8x⟩
        have C8 : Hid (Below w4.heap.size w4 w8) := hide (C6.out.trans b8x)
        have HO8 := hide O8
        obtain ⟨r8, c0, c1, c18, c35, c36, c37, c38, c39, c40', c41, c42⟩ := HK4.out w8 C8.out
        rw [← HND.out] at c42
        clear O8 b8x r6 c40 c0 c1 c18 c35 c36 c37 c38 c39 c40' c41
        dsimp only
        go_wp2_with fail
        refine (put2_any w8 w4.heap.size v8 _ (nd : Int) HO8.out C8.out.size (by simp)).mono ?_
        rintro e w10 ⟨v10, rfl, O10, b10⟩
        have C10 : Hid (Below w4.heap.size w4 w10) := hide (C8.out.trans b10)
        have HO10 := hide O10
        have hz10 := hide C10.out.size
        obtain ⟨r10, c0, c1, c18, c35, c36, c37, c38, c39, c40, c41, c42'⟩ := HK4.out w10 C10.out
        clear O10 b10 r8 c42 c0 c1 c18 c37 c38 c39 c40 c41 c42'
        dsimp only
        go_wp2_with (at_builtin; refine wpList_app_bytes rfl (.tmp 60) (.tmp 67) rfl w4.heap.size v10 _ [u3, u4] (w10.heap.size + 1) 2 (some ⟨w10.heap.size, 0, none⟩) rfl rfl (by exact HO10.out.alloc _) (by exact Byt.lit w10 [u3, u4] _ _ (0, 0) rfl) (fun e => by cases e) (by simp) (by have := hz10.out; simp; omega) ?_)
        intro v11 w11 hown11 hgr11 hat11
        have C11 : Hid (Below w4.heap.size w4 w11) := hide ((C10.out.alloc C10.out.size _).grown hgr11 (by have := hz10.out; simp; omega) (fun k hk => (World.ownsRow.lt HO10.out k hk).1))
        have HO11 := hide hown11
        have HAy11 := hide (HAy4.out.below C11.out)
        clear hown11 hgr11 hat11 r10 c35 c36
        go_wp2_with (at_builtin; refine wpList_app_bytes rfl (.tmp 69) (.tmp 70) rfl w4.heap.size v11 _ sB w4.heap.size aC aA rfl rfl (by exact HO11.out) (by exact HAy11.out) HAn.out (by have := HSL.out; simp; omega) C11.out.size ?_)
        intro v12 w12 hown12 hgr12 hat12
        have C12 : Hid (Below w4.heap.size w4 w12) := hide (C11.out.grown hgr12 C11.out.size (fun k hk => (World.ownsRow.lt HO11.out k hk).1))
        have HO12 := hide hown12
        have HDy12 := hide (HDy.out.below C12.out)
        clear hown12 hgr12 hat12
        go_wp2_with (at_builtin; refine wpList_app_bytes rfl (.tmp 72) (.tmp 73) rfl w4.heap.size v12 _ dB w4.heap.size dC dA rfl rfl (by exact HO12.out) (by exact HDy12.out) HDn.out (by have := HSL.out; have := HDL.out; simp; omega) C12.out.size ?_)
        intro v13 w13 hown13 hgr13 hat13
        have C13 : Hid (Below w4.heap.size w4 w13) := hide (C12.out.grown hgr13 C12.out.size (fun k hk => (World.ownsRow.lt HO12.out k hk).1))
        obtain ⟨L, hLL, hown⟩ : ∃ L, L ++ D = pktB h O D ∧ OwnB w13 w4.heap.size v13 L := ⟨_, by
          have e := doc6_all (O := O) hE.out HV.out.symm HP.out.x.ls HP.out.x.ld HP.out.dl HT.out HLB.out HND.out HU0.out HU1.out
          rw [← HU3.out, ← HU4.out, ← HSB4.out, ← HDB4.out] at e
          exact e, hown13⟩
        have hLn : L.length ≤ 65535 := by
          have e := congrArg List.length hLL
          rw [List.length_append, pk_len hE.out HP.out.x.ls HP.out.x.ld HP.out.ol HP.out.dl] at e
          have := (pktE_zero hE.out).2
          omega
        have HLN := hide hLn
        have HLL := hide hLL
        have HO13 := hide hown
        obtain ⟨r13, c0, c1, c18, c35, c36, c37, c38, c39, c40, c41, c42⟩ := HK4.out w13 C13.out
        rw [← HP.out.dl] at c42
        have hwW : Below w.heap.size w w13 := HB.out.trans ((B4.out.trans (C13.out.mono B4.out.size)).mono HB.out.size)
        have HDD := hide (HP.out.d.below hwW)
        clear hown13 hgr13 hat13 hwW hLL hLn hown c0 c1 c18 c35 c36 c37 c38 c39 c40 c41
        go_wp2_with (at_builtin; refine wpList_app_bytes rfl (.tmp 75) (.tmp 77) rfl w4.heap.size v13 L D w.heap.size h.cd h.ad rfl rfl (by exact HO13.out) (by exact HDD.out) HP.out.dn (by have := HLN.out; have := HP.out.dl; have := HND.out; have := hbig; omega) C13.out.size ?_)
        intro v18 w18 hown18 hgr18 hat18
        have C18 : Hid (Below w4.heap.size w4 w18) := hide (C13.out.grown hgr18 C13.out.size (fun k hk => (World.ownsRow.lt HO13.out k hk).1))
        have HO18 : Hid (OwnB w18 w4.heap.size v18 (pktB h O D)) := hide (by rw [← HLL.out]; exact hown18)
        clear hown18 hgr18 hat18
        go_wp2
        go_ret2
        rw [hE.out]
        have hb4 : w.heap.size ≤ w4.heap.size := by have := HB.out.size; have := B4.out.size; omega
        obtain ⟨A, c, e, -⟩ := HO18.out.shape
        exact ⟨A, c, by subst e; rfl, by rw [← e]; exact HO18.out.low hb4, HB.out.trans ((B4.out.trans (C18.out.mono B4.out.size)).mono HB.out.size)⟩)

theorem refputH_any (w : World) (X : Array Value) (h : Ip) (O D : List UInt8) (p : InP w X h O D) :
    Calls Try.prog 9 #[.agg X] w fun e w' => ∃ A c, e = .returned (.tuple #[.slice A (pktB h O D).length c, .int .i64 (pktE h)]) ∧ OwnB w' w.heap.size (.slice A (pktB h O D).length c) (pktB h O D) ∧ Below w.heap.size w w' := by
  cases hv : h.v
  · exact refput4_any w X h O D p hv
  · exact refput6_any w X h O D p hv
end Go.Proofs.Ytnhcfmmmghghgaa
