/-
  The walk of the document's Put: packets of four.
-/
import Derived.Test.YtnhcfmmmghghgaaJn
import Derived.Test.YtnhcfmmmghghgaaJp
import Derived.Test.YtnhcfmmmghghgaaJq
import Derived.Test.YtnhcfmmmghghgaaJt
namespace Go.Proofs.Ytnhcfmmmghghgaa
open Go.RowKit
attribute [local go_sem ↓] exec_span exec_put exec_build heap_alloc_new heap_old
attribute [local go_sem] spanQ_ptr spanC_some heap_of_drew heap_of_drewN rs_arr rs_ad rs_ip rs_rip putAt_ptr putOk_ptr oldOk_some World.setRow_alloc_new
set_option maxRecDepth 100000
set_option linter.unusedVariables false
set_option linter.unusedSimpArgs false

theorem OwnB.low {w : World} {base base' : Nat} {v : Value} {l : List UInt8} (h : OwnB w base v l) (hb : base' ≤ base) : OwnB w base' v l := by
  refine ⟨h.1, ?_⟩
  rcases h.2 with h0 | ⟨g, cap, cur, e, hg, hr⟩
  · exact .inl h0
  · exact .inr ⟨g, cap, cur, e, Nat.le_trans hb hg, hr⟩
theorem step_app_bytes {ops : Array Oper} {o : Oper} {a : Act} {w : World} {K' : Act → World → Prop} {Q : Exit → Act → World → Prop} {E : Prop} (hgd : o.guard = none) (s x : Operand)
    (ho : o.op = .call { callee := .builtin .append, args := #[s, x], argTypes := #[25, 25] }) (base : Nat) (v : Value) (l0 l : List UInt8) (B c : Nat) (A : Option Addr)
    (hs : a.eval s = v) (hx : a.eval x = .slice A l.length c) (hown : OwnB w base v l0) (hb : Byt w B A l) (hnil : A = none → c = 0) (hlen : l0.length + l.length ≤ 140737488355328) (hbase : base ≤ w.heap.size)
    (h : ∀ v' w', OwnB w' base v' (l0 ++ l) → w.grownBy w' v.ownBlock → (v'.ownBlock = v.ownBlock ∨ v'.ownBlock = some w.heap.size) → K' (a.put o.dst v') w') : if Region.wanted o (yielded ops a.tmps) = true then Oper.wp Try.prog o a w K' Q else E := by
  have hw : Region.wanted o (yielded ops a.tmps) = true := by simp [Region.wanted, hgd]
  rw [if_pos hw]
  obtain ⟨v', w', hr, h2, h3, h4⟩ := run_app_bytes w base o.type v l0 l B c A hown hb hnil hlen hbase
  unfold Oper.wp execOp
  simp only [ho, resolve, invoke, builtin, Sem.run_bind, Sem.run_pure, Result.andThen_ok, List.map_toArray, List.map_cons, List.map_nil, hs, hx, hr]
  exact h v' w' h2 h3 h4

set_option maxHeartbeats 4000000 in
theorem refput4_any (w : World) (X : Array Value) (h : Ip) (O D : List UInt8) (p : InP w X h O D) (hv : h.v = false) :
    Calls Try.prog 9 #[.agg X] w fun e w' => ∃ A c, e = .returned (.tuple #[.slice A (pktB h O D).length c, .int .i64 (pktE h)]) ∧ OwnB w' w.heap.size (.slice A (pktB h O D).length c) (pktB h O D) ∧ Below w.heap.size w w' := by
  obtain ⟨W, hW, h1, hz, hb⟩ := one_block w (.cells X 27)
  have hxs := p.x.size
  have hxr := p.x.x0
  have hno := Nat.le_trans p.om (show 140737488351232 ≤ 140737488355328 by decide)
  have KR := hide (fun (W1 : World) => refrightH_any W1 X h p.x hno)
  have KS := hide (fun (W1 : World) => refsizeH_any W1 X h p.x hno)
  have hkeep : ∀ W1 : World, Below W.heap.size W W1 → W1.heap[w.heap.size]? = some (.cells X 27 (0, 0)) ∧ IpC W1 w.heap.size h := fun W1 hb1 => by
    have hh := (hb1.block w.heap.size (by omega)).trans h1
    exact ⟨hh, p.x.cells hh⟩
  have HK := hide hkeep
  have HB := hide hb
  have HZ := hide hz
  have HP := hide p
  have HV : Hid (false = h.v) := hide hv.symm
  clear hv
  have aS : AdV (adL h.sv h.sb).toArray h.sv h.sb := AdV.mk' p.x.ls
  have aD : AdV (adL h.dv h.db).toArray h.dv h.db := AdV.mk' p.x.ld
  obtain ⟨SA, hSA⟩ : ∃ S, S = (adL h.sv h.sb).toArray := ⟨_, rfl⟩
  obtain ⟨DA, hDA⟩ : ∃ S, S = (adL h.dv h.db).toArray := ⟨_, rfl⟩
  have hsrc := p.x.src
  have hdst := p.x.dst
  rw [← hSA] at hsrc aS
  rw [← hDA] at hdst aD
  have KA := hide (fun (W1 : World) => refbytes_any W1 SA h.sv h.sb aS)
  have KB := hide (fun (W1 : World) => refbytes_any W1 DA h.dv h.db aD)
  obtain ⟨sB, hsB⟩ : ∃ l, l = byB h.sv h.sb := ⟨_, rfl⟩
  obtain ⟨dB, hdB⟩ : ∃ l, l = byB h.dv h.db := ⟨_, rfl⟩
  rw [← hsB] at KA
  rw [← hdB] at KB
  have HsB := hide hsB
  have HdB := hide hdB
  clear hSA hDA aS aD hsB hdB
  obtain ⟨S, hS⟩ : ∃ S, S = sizeN h := ⟨_, rfl⟩
  obtain ⟨R, hR⟩ : ∃ R, R = rightH h := ⟨_, rfl⟩
  simp only [sizeH_nat] at KS
  rw [← hS] at KS
  rw [← hR] at KR
  have HS := hide hS
  have HR := hide hR
  have hSb : S ≤ 140737488355400 := by rw [hS]; unfold sizeN; split <;> omega
  have hndb := p.dm
  obtain ⟨nd, hnd⟩ : ∃ n, n = h.nd := ⟨_, rfl⟩
  rw [← hnd] at hndb
  have HND := hide hnd
  clear hS hR hkeep hb p hnd hno hz
  cases R
  · have hE : Hid (pktE h = 1) := hide (by unfold pktE; rw [← HR.out]; rfl)
    have hBB : Hid (pktB h O D = []) := hide (by unfold pktB; rw [hE.out]; rfl)
    rw [hE.out, hBB.out]
    go_enter Try.func9, Try.ntmps9
    go_wp2_with fail
    refine (KR.out W).mono ?_
    rintro e w1 ⟨rfl, b1⟩
    have B1 := hide b1
    clear b1
    dsimp only
    go_wp2
    go_ret2
    exact ⟨none, 0, rfl, OwnB.nil _ _, HB.out.trans (B1.out.mono HB.out.size)⟩
  · go_enter Try.func9, Try.ntmps9
    go_wp2_with fail
    refine (KR.out W).mono ?_
    rintro e w1 ⟨rfl, b1⟩
    have B1 := hide b1
    obtain ⟨r1, c0, c1, c18, c35, c36, c37, c38, c39, c40, c41, c42⟩ := HK.out w1 b1
    rw [← HND.out] at c42
    clear b1
    dsimp only
    have hw1 : IntKind.i64.wrap (65535 - (S : Int)) = 65535 - (S : Int) := IntWalk.i64_in _ (by omega)
    go_wp2_with fail
    go_region_held3 (fun w' => w'.heap[w.heap.size]? = some (.cells X 27 (0, 0)) ∧ w'.cell? ⟨w.heap.size, 42, none⟩ = some (.slice h.ad nd h.cd))
      (first
        | exact ⟨r1, c42⟩
        | exact ⟨r2, d42⟩
        | fail)
      (first
        | (go_at_call 13; (with_reducible refine (KS.out w1.drew).mono ?_); rintro e w2 ⟨rfl, b2⟩; have B2 : Hid (Below W.heap.size W w2) := hide (B1.out.drew.trans (b2.mono B1.out.drew.size)); obtain ⟨r2, d0, d1, d18, d35, d36, d37, d38, d39, d40, d41, d42⟩ := HK.out w2 B2.out; rw [← HND.out] at d42; clear b2)
        | fail)
    all_goals (
      by_cases hbig : 65535 - (S : Int) < (nd : Int)
      · have hE : Hid (pktE h = 3) := hide (by unfold pktE; rw [← HR.out, if_pos rfl, ← HS.out, ← HND.out, if_pos (by omega)])
        have hBB : Hid (pktB h O D = []) := hide (by unfold pktB; rw [hE.out]; rfl)
        go_wp2
        go_ret2
        rw [hE.out, hBB.out]
        exact ⟨none, 0, rfl, OwnB.nil _ _, HB.out.trans (B2.out.mono HB.out.size)⟩
      · have hE : Hid (pktE h = 0) := hide (by unfold pktE; rw [← HR.out, if_pos rfl, ← HS.out, ← HND.out, if_neg (by omega)])
        go_wp2_with fail
        refine (KA.out w2).mono ?_
        rintro e w3 ⟨⟨aA, aC, rfl, ay, al, an⟩, b3⟩
        have B3 : Hid (Below W.heap.size W w3) := hide (B2.out.trans (b3.mono B2.out.size))
        obtain ⟨r3, e0, e1, e18, e35, e36, e37, e38, e39, e40, e41, e42⟩ := HK.out w3 B3.out
        have HAy := hide ay
        have HAl := hide al
        have HAn := hide an
        clear b3 ay al an
        dsimp only
        go_wp2_with fail
        refine (KB.out w3).mono ?_
        rintro e w4 ⟨⟨dA, dC, rfl, dy, dl, dn⟩, b4⟩
        have B4 : Hid (Below W.heap.size W w4) := hide (B3.out.trans (b4.mono B3.out.size))
        have HAy4 : Hid (Byt w4 w4.heap.size aA sB) := hide ((HAy.out.below b4).more b4.size)
        have HDy := hide dy
        have HDl := hide dl
        have HDn := hide dn
        obtain ⟨r4, f0, f1, f18, f35, f36, f37, f38, f39, f40, f41, f42⟩ := HK.out w4 B4.out
        clear b4 dy dl dn HAy r1 c0 c1 c18 c35 c36 c37 c38 c39 c40 c41 c42 r2 d0 d1 d18 d35 d36 d37 d38 d39 d40 d41 d42 r3 e0 e1 e18 e35 e36 e37 e38 e39 e40 e41 e42
        dsimp only
        rw [← HV.out] at f0
        have hS20 : S = 20 + h.no := by rw [HS.out]; unfold sizeN; rw [← HV.out]; rfl
        have hrf := (right_facts HR.out.symm).2.2.2.2 HV.out.symm
        have hS60 : S ≤ 60 := by omega
        obtain ⟨q, hq⟩ : ∃ q : Nat, q = S / 4 := ⟨_, rfl⟩
        have hqi : (S : Int) / 4 = (q : Int) := by omega
        have hor := or64 (q := q) (by omega)
        have hwq : IntKind.i64.wrap (q : Int) = (q : Int) := IntWalk.i64_in _ (by omega)
        obtain ⟨u0, hu0⟩ : ∃ u, u = b8 (64 + (q : Int)) := ⟨_, rfl⟩
        obtain ⟨u1, hu1⟩ : ∃ u, u = b8 h.tos := ⟨_, rfl⟩
        have q0 := b8_eq (64 + (q : Int))
        have q1 := b8_eq h.tos
        rw [← hu0] at q0
        rw [← hu1] at q1
        have HU0 := hide hu0
        have HU1 := hide hu1
        have HQ := hide hq
        have HS20 := hide hS20
        have HRF := hide hrf
        have HS60 := hide hS60
        clear hu0 hu1 hq hS20 hrf hS60
        have r4d : w4.drew.heap[w.heap.size]? = some (.cells X 27 (0, 0)) := r4
        have f37d : w4.drew.cell? ⟨w.heap.size, 37, none⟩ = some (.int .i64 h.tos) := f37
        have hS0 : (0 : Int) ≤ (S : Int) := by omega
        go_wp2_with fail
        go_region_law (first
          | (go_simp; go_at_call 13; refine (KS.out w4.drew).mono ?_; rintro e w5 ⟨rfl, b5⟩
             have B5 : Hid (Below w4.heap.size w4 w5) := hide (below_undrew' b5)
             obtain ⟨r5, -, -, -, -, -, g37, -, -, -, -, -⟩ := HK.out w5 (B4.out.trans (B5.out.mono B4.out.size))
             have hz5 := hide B5.out.size
             clear b5)
          | (refine step_app_bytes rfl (.tmp 79) (.tmp 88) rfl w4.heap.size (.slice none 0 0) [] [u0, u1] (w5.heap.size + 1) 2 (some ⟨w5.heap.size, 0, none⟩) rfl rfl (OwnB.nil _ _) (by exact Byt.lit w5 [u0, u1] _ _ (0, 0) rfl) (fun e => by cases e) (by simp) (by have := hz5.out; simp; omega) ?_; intro v6 w6 hown6 hgr6 hat6; dsimp only [Act.put])
          | fail)
        all_goals (
          have C6 : Hid (Below w4.heap.size w4 w6) := hide ((B5.out.alloc B5.out.size _).grown hgr6 (by have := hz5.out; simp; omega) (fun k hk => by simp [Value.ownBlock] at hk))
          have O6 : Hid (OwnB w6 w4.heap.size v6 [u0, u1]) := hide hown6
          have HK4 := hide (fun (W1 : World) (b : Below w4.heap.size w4 W1) => HK.out W1 (B4.out.trans (b.mono B4.out.size)))
          obtain ⟨r6, g0, g1, g18, g35, g36, g37', g38, g39, g40, g41, g42⟩ := HK4.out w6 C6.out
          rw [← HND.out] at g42
          have hbig' : (S : Int) + (nd : Int) ≤ 65535 := by omega
          have hws : IntKind.i64.wrap ((S : Int) + (nd : Int)) = (S : Int) + (nd : Int) := IntWalk.i64_in _ (by omega)
          clear hown6 hgr6 hat6 r5 g37 r4 r4d f37d f0 f1 f18 f35 f36 f37 f38 f39 f40 f41 f42
          go_wp2_with fail
          go_region_held3 (fun w' => w'.heap[w.heap.size]? = some (.cells X 27 (0, 0)) ∧ w'.cell? ⟨w.heap.size, 42, none⟩ = some (.slice h.ad nd h.cd))
            (first
              | exact ⟨r6, g42⟩
              | exact ⟨r7, k42⟩
              | exact ⟨r8, m42⟩
              | fail)
            (first
              | (go_at_call 13; (with_reducible refine (KS.out w6.drew).mono ?_); rintro e w7 ⟨rfl, b7⟩; have C7 : Hid (Below w4.heap.size w4 w7) := hide (C6.out.drew.trans (b7.mono C6.out.drew.size)); have O7 : Hid (OwnB w7 w4.heap.size v6 [u0, u1]) := hide (World.ownsRow.kept O6.out (below_row (below_undrew' b7) none) (Classical.em _)); obtain ⟨r7, k0, k1, k18, k35, k36, k37, k38, k39, k40, k41, k42⟩ := HK4.out w7 C7.out; rw [← HND.out] at k42; clear b7)
              | (go_at_call 27; (with_reducible refine (put2_any w7 w4.heap.size v6 [u0, u1] ((S : Int) + (nd : Int)) O7.out C7.out.size (by simp)).mono ?_); rintro e w8 ⟨v8, rfl, O8, b8⟩; have C8 : Hid (Below w4.heap.size w4 w8) := hide (C7.out.trans b8); have HO8 := hide O8; obtain ⟨r8, m0, m1, m18, m35, m36, m37, m38, m39, m40, m41, m42⟩ := HK4.out w8 C8.out; rw [← HND.out] at m42; clear b8 O8)
              | fail)
          all_goals (
            obtain ⟨t1, ht1⟩ : ∃ u, u = b8 (((S : Int) + (nd : Int)) / 256) := ⟨_, rfl⟩
            obtain ⟨t2, ht2⟩ : ∃ u, u = b8 ((S : Int) + (nd : Int)) := ⟨_, rfl⟩
            rw [← ht1, ← ht2] at HO8
            have HT1 := hide ht1
            have HT2 := hide ht2
            obtain ⟨dz, hdz⟩ : ∃ z : Int, z = if h.df then 16384 else 0 := ⟨_, rfl⟩
            obtain ⟨dfv, hdf⟩ : ∃ d, d = h.df := ⟨_, rfl⟩
            rw [← hdf] at m39
            have hdd : (dfv = false ∧ dz = 0) ∨ (dfv = true ∧ dz = 16384) := by
              rw [hdz, hdf]; cases h.df <;> simp
            have HDZ := hide hdz
            have HDF := hide hdf
            clear ht1 ht2 hdz hdf r6 g0 g1 g18 g35 g36 g37' g38 g39 g40 g41 g42 r7 k0 k1 k18 k35 k36 k37 k38 k39 k40 k41 k42
            go_wp2_with fail
            refine (put2_any w8 w4.heap.size v8 _ h.id HO8.out C8.out.size (by simp)).mono ?_
            rintro e w9 ⟨v9, rfl, O9, b9⟩
            have C9 : Hid (Below w4.heap.size w4 w9) := hide (C8.out.trans b9)
            have HO9 := hide O9
            obtain ⟨r9, n0, n1, n18, n35, n36, n37, n38, n39, n40, n41, n42⟩ := HK4.out w9 C9.out
            have n39' : w9.cell? ⟨w.heap.size, 39, none⟩ = some (.bool dfv) := by
              rw [HDF.out]; exact n39
            clear b9 O9 m0 m1 m18 m35 m36 m37 m38 m39 m40 m41 m42 r8 n39
            dsimp only
            obtain ⟨u3, hu3⟩ : ∃ u, u = b8 h.ttl := ⟨_, rfl⟩
            obtain ⟨u4, hu4⟩ : ∃ u, u = b8 h.p := ⟨_, rfl⟩
            have q3 := b8_eq h.ttl
            have q4 := b8_eq h.p
            rw [← hu3] at q3
            rw [← hu4] at q4
            have HU3 := hide hu3
            have HU4 := hide hu4
            clear hu3 hu4
            have hsB4 : sB = h.sb.take 4 := by
              have hr : rightL h.sv h.sb = true := by have := HR.out.symm; unfold rightH at this; revert this; cases rightL h.sv h.sb <;> simp
              have hsv : h.sv = false := by have := HR.out.symm; rw [HV.out]; unfold rightH at this; revert this; cases h.sv <;> cases h.v <;> simp
              rw [HsB.out]; unfold byB; rw [hr, hsv]; rfl
            have hdB4 : dB = h.db.take 4 := by
              have hr : rightL h.dv h.db = true := by have := HR.out.symm; unfold rightH at this; revert this; cases rightL h.dv h.db <;> simp
              have hsv : h.dv = false := by have := HR.out.symm; rw [HV.out]; unfold rightH at this; revert this; cases h.dv <;> cases h.v <;> simp
              rw [HdB.out]; unfold byB; rw [hr, hsv]; rfl
            have HSB4 := hide hsB4
            have HDB4 := hide hdB4
            have HSL : Hid (sB.length = 4) := hide (by rw [hsB4, List.length_take, HP.out.x.ls]; rfl)
            have HDL : Hid (dB.length = 4) := hide (by rw [hdB4, List.length_take, HP.out.x.ld]; rfl)
            clear hsB4 hdB4
            rcases hdd with ⟨rfl, rfl⟩ | ⟨rfl, rfl⟩
            all_goals (
              go_wp2_with fail
              refine (put2_any w9 w4.heap.size v9 _ _ HO9.out C9.out.size (by simp)).mono ?_
              rintro e w10 ⟨v10, rfl, O10, b10⟩
              have C10 : Hid (Below w4.heap.size w4 w10) := hide (C9.out.trans b10)
              have HO10 := hide O10
              have hz10 := hide C10.out.size
              obtain ⟨r10, c0, c1, c18, c35, c36, c37, c38, c39, c40, c41, c42⟩ := HK4.out w10 C10.out
              clear b10 O10 n0 n1 n18 n35 n36 n37 n38 n39' n40 n41 n42 r9
              dsimp only
              go_wp2_with (at_builtin; refine wpList_app_bytes rfl (.tmp 107) (.tmp 114) rfl w4.heap.size v10 _ [u3, u4, 0, 0] (w10.heap.size + 1) 4 (some ⟨w10.heap.size, 0, none⟩) rfl rfl (by exact HO10.out.alloc _) (by exact Byt.lit w10 [u3, u4, 0, 0] _ _ (0, 0) rfl) (fun e => by cases e) (by simp) (by have := hz10.out; simp; omega) ?_)
              intro v11 w11 hown11 hgr11 hat11
              have C11 : Hid (Below w4.heap.size w4 w11) := hide ((C10.out.alloc C10.out.size _).grown hgr11 (by have := hz10.out; simp; omega) (fun k hk => (World.ownsRow.lt HO10.out k hk).1))
              have HO11 := hide hown11
              have HAy11 := hide (HAy4.out.below C11.out)
              clear hown11 hgr11 hat11 c0 c1 c18 c35 c36 c37 c38 c39 c40 c41 c42 r10
              go_wp2_with (at_builtin; refine wpList_app_bytes rfl (.tmp 116) (.tmp 117) rfl w4.heap.size v11 _ sB w4.heap.size aC aA rfl rfl (by exact HO11.out) (by exact HAy11.out) HAn.out (by have := HSL.out; simp; omega) C11.out.size ?_)
              intro v12 w12 hown12 hgr12 hat12
              have C12 : Hid (Below w4.heap.size w4 w12) := hide (C11.out.grown hgr12 C11.out.size (fun k hk => (World.ownsRow.lt HO11.out k hk).1))
              have HO12 := hide hown12
              have HDy12 := hide (HDy.out.below C12.out)
              clear hown12 hgr12 hat12
              go_wp2_with (at_builtin; refine wpList_app_bytes rfl (.tmp 119) (.tmp 120) rfl w4.heap.size v12 _ dB w4.heap.size dC dA rfl rfl (by exact HO12.out) (by exact HDy12.out) HDn.out (by have := HSL.out; have := HDL.out; simp; omega) C12.out.size ?_)
              intro v13 w13 hown13 hgr13 hat13
              have C13 : Hid (Below w4.heap.size w4 w13) := hide (C12.out.grown hgr13 C12.out.size (fun k hk => (World.ownsRow.lt HO12.out k hk).1))
              have HO13 := hide hown13
              obtain ⟨r13, c0, c1, c18, c35, c36, c37, c38, c39, c40, c41, c42⟩ := HK4.out w13 C13.out
              rw [← HP.out.ol] at c41
              have hwW : Below w.heap.size w w13 := HB.out.trans ((B4.out.trans (C13.out.mono B4.out.size)).mono HB.out.size)
              have HO13' := hide (HP.out.o.below hwW)
              have HW13 := hide hwW
              clear hown13 hgr13 hat13 hwW c0 c1 c18 c35 c36 c37 c38 c39 c40 c42
              go_wp2_with (at_builtin; refine wpList_app_bytes rfl (.tmp 122) (.tmp 124) rfl w4.heap.size v13 _ O w.heap.size h.co h.ao rfl rfl (by exact HO13.out) (by exact HO13'.out) HP.out.on (by have := HSL.out; have := HDL.out; have := HRF.out; have := HP.out.ol; simp; omega) C13.out.size ?_)
              intro v14 w14 hown14 hgr14 hat14
              have C14 : Hid (Below w4.heap.size w4 w14) := hide (C13.out.grown hgr14 C13.out.size (fun k hk => (World.ownsRow.lt HO13.out k hk).1))
              have hdoc : ∃ dz : Int, (dz = if h.df then 16384 else 0) ∧ OwnB w14 w4.heap.size v14 (doc4 h O sB dB q S nd dz) := ⟨_, HDZ.out, by
                have e := hown14
                rw [HU0.out, HU1.out, HT1.out, HT2.out, HU3.out, HU4.out] at e
                unfold doc4
                simpa using e⟩
              obtain ⟨dz, hdz2, hdoc⟩ := hdoc
              obtain ⟨L, hLL⟩ : ∃ L, L = doc4 h O sB dB q S nd dz := ⟨_, rfl⟩
              have HDZ2 := hide hdz2
              have hown : OwnB w14 w4.heap.size v14 L := by rw [hLL]; exact hdoc
              have HLL := hide hLL
              have hLn : L.length = S := by
                rw [hLL]; unfold doc4
                have := HSL.out; have := HDL.out; have := HS20.out; have := HP.out.ol
                simp; omega
              clear hown14 hgr14 hat14 hLL hdoc hdz2
              obtain ⟨g, cap, hv14, hbg⟩ : ∃ g cap, v14 = .slice (some ⟨g, 0, none⟩) L.length cap ∧ w4.heap.size ≤ g := by
                rcases hown.2 with ⟨_, h0⟩ | ⟨g, cap, cur, e, hbg, -⟩
                · have := HS20.out; omega
                · exact ⟨g, cap, e, hbg⟩
              subst hv14
              obtain ⟨A', c', hv', hlc, hby, -, -⟩ := hown.shape
              cases hv'
              have hL20 : 20 ≤ L.length := by have := HS20.out; omega
              have hL60 : L.length ≤ 60 := by have := HS60.out; omega
              have KO := own_any w14 (some ⟨g, 0, none⟩) cap L (by omega) (by omega) hby (fun e => by cases e)
              obtain ⟨Ni, hNi⟩ : ∃ z : Int, z = ((headS L : Nat) : Int) := ⟨_, rfl⟩
              rw [← hNi] at KO
              have HKO := hide KO
              have HNI := hide hNi
              have HOWN := hide hown
              obtain ⟨x10, hx10⟩ : ∃ u, u = b8 (Ni / 256) := ⟨_, rfl⟩
              obtain ⟨x11, hx11⟩ : ∃ u, u = b8 Ni := ⟨_, rfl⟩
              have e10 := b8_eq (Ni / 256)
              have e11 := b8_eq Ni
              rw [← hx10] at e10
              rw [← hx11] at e11
              have HX10 := hide hx10
              have HX11 := hide hx11
              have HLN := hide hLn
              have HL20 := hide hL20
              have HL60 := hide hL60
              have HBG := hide hbg
              have hl10 : (10 : Int) < (L.length : Int) := by omega
              have hl11 : (11 : Int) < (L.length : Int) := by omega
              clear KO hNi hown hby hlc hx10 hx11 hLn hL20 hL60 hbg
              go_wp2_with fail
              refine HKO.out.mono ?_
              rintro e w15 ⟨rfl, b15⟩
              have C15 : Below w4.heap.size w4 w15 := C14.out.trans (b15.mono C14.out.size)
              have hO15 : OwnB w15 w4.heap.size (.slice (some ⟨g, 0, none⟩) L.length cap) L := World.ownsRow.kept HOWN.out (below_row b15 none) (Classical.em _)
              have f10 := hO15.frozenAt 10
              have hc10 : ∃ u, w15.cell? ⟨g, 10, none⟩ = some u := ⟨_, (hO15.cellAt 10 (by omega)).trans (List.getElem?_eq_getElem (by simp; omega))⟩
              obtain ⟨u10, c10⟩ := hc10
              have ho2 := hO15.put 10 (by omega) x10
              have g2 := (World.ownsRow.stored hO15 10 (.int .u8 (x10.toNat : Int))).2
              obtain ⟨w16, hw16⟩ : ∃ w', w15.setCell ⟨g, 10, none⟩ (.int .u8 (x10.toNat : Int)) = w' := ⟨_, rfl⟩
              have ho2' : OwnB w16 w4.heap.size (.slice (some ⟨g, 0, none⟩) (L.set 10 x10).length cap) (L.set 10 x10) := by rw [← hw16, List.length_set]; exact ho2
              rw [hw16] at g2
              have f11 := ho2'.frozenAt 11
              have hc11 : ∃ u, w16.cell? ⟨g, 11, none⟩ = some u := ⟨_, (ho2'.cellAt 11 (by simp; omega)).trans (List.getElem?_eq_getElem (by simp; omega))⟩
              obtain ⟨u11, c11⟩ := hc11
              have ho3 := ho2'.put 11 (by simp; omega) x11
              have g3 := (World.ownsRow.stored ho2' 11 (.int .u8 (x11.toNat : Int))).2
              obtain ⟨w17, hw17⟩ : ∃ w', w16.setCell ⟨g, 11, none⟩ (.int .u8 (x11.toNat : Int)) = w' := ⟨_, rfl⟩
              have ho3' : OwnB w17 w4.heap.size (.slice (some ⟨g, 0, none⟩) L.length cap) ((L.set 10 x10).set 11 x11) := by rw [← hw17]; rw [List.length_set] at ho3; exact ho3
              rw [hw17] at g3
              have C16 : Below w4.heap.size w4 w16 := C15.grown g2 C15.size (fun k hk => by cases hk; exact HBG.out)
              have C17 : Below w4.heap.size w4 w17 := C16.grown g3 C16.size (fun k hk => by cases hk; exact HBG.out)
              obtain ⟨r17, c0, c1, c18, c35, c36, c37, c38, c39, c40, c41, c42⟩ := HK4.out w17 C17
              rw [← HP.out.dl] at c42
              have hwW : Below w.heap.size w w17 := HB.out.trans ((B4.out.trans (C17.mono B4.out.size)).mono HB.out.size)
              have HDD := hide (HP.out.d.below hwW)
              have HW17 := hide hwW
              have HO17 := hide ho3'
              have HC17 := hide C17.size
              have HCC17 := hide C17
              have hfin : (L.set 10 x10).set 11 x11 ++ D = pktB h O D := by
                rw [HX10.out, HX11.out, HLL.out]
                exact doc4_all hE.out HV.out.symm HQ.out HS20.out HND.out HDZ2.out HSB4.out HDB4.out HP.out.x.ls HP.out.x.ld HP.out.ol HP.out.dl (by rw [← HLL.out]; exact HNI.out)
              have HFIN := hide hfin
              have hLen : ((L.set 10 x10).set 11 x11).length = L.length := by simp
              have HLEN := hide hLen
              clear hfin hLen ho2 ho2' ho3 ho3' g2 g3 hO15 C15 C16 C17 hwW b15 c0 c1 c18 c35 c36 c37 c38 c39 c40 c41
              dsimp only
              go_wp2_with (at_builtin; refine wpList_app_bytes rfl (.tmp 137) (.tmp 139) rfl w4.heap.size (.slice (some ⟨g, 0, none⟩) L.length cap) ((L.set 10 x10).set 11 x11) D w.heap.size h.cd h.ad rfl rfl (by exact HO17.out) (by exact HDD.out) HP.out.dn (by have := HLEN.out; have := HL60.out; have := HP.out.dl; have := HP.out.dm; omega) HC17.out ?_)
              intro v18 w18 hown18 hgr18 hat18
              have C18 : Hid (Below w4.heap.size w4 w18) := hide (HCC17.out.grown hgr18 HC17.out (fun k hk => (World.ownsRow.lt HO17.out k hk).1))
              have HO18 : Hid (OwnB w18 w4.heap.size v18 (pktB h O D)) := hide (by rw [← HFIN.out]; exact hown18)
              clear hown18 hgr18 hat18
              go_wp2
              go_ret2
              rw [hE.out]
              have hb4 : w.heap.size ≤ w4.heap.size := by have := HB.out.size; have := B4.out.size; omega
              obtain ⟨A, c, e, -⟩ := HO18.out.shape
              exact ⟨A, c, by subst e; rfl, by rw [← e]; exact HO18.out.low hb4, HB.out.trans ((B4.out.trans (C18.out.mono B4.out.size)).mono HB.out.size)⟩))))
end Go.Proofs.Ytnhcfmmmghghgaa
