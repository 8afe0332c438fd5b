/-
  The walk of the statement SegmentCut.
-/
import Derived.Test.YtcfckhdohcaffaaMkx
import Derived.Deep.RegionHeld3
namespace Go.Proofs.Ytcfckhdohcaffaa
open Go.RowKit
attribute [local go_sem ↓] exec_span exec_put exec_build heap_alloc_new heap_old heap_alloc_drew
attribute [local go_sem] spanQ_ptr spanC_some heap_of_drew heap_of_drewN rs_arr rs_ad rs_ip rs_rip rs_seg rs_rseg putAt_ptr putOk_ptr oldOk_some World.setRow_alloc_new setRow_drew
set_option maxRecDepth 100000
set_option linter.unusedVariables false
set_option linter.unusedSimpArgs false

/-- a datagram's bytes say how many they are. -/
theorem udp_zero {h : Ip} {L : List UInt8} (hp : h.p = 17) (h0 : segE h L = 0) : 8 ≤ L.length ∧ nmB L 4 2 = L.length := by
  unfold segE at h0
  rw [if_neg (by rw [hp]; decide), if_pos hp] at h0
  unfold udpE at h0
  by_cases h1 : L.length < 8
  · rw [if_pos h1] at h0; exact absurd h0 (by decide)
  · rw [if_neg h1] at h0
    by_cases h2 : L.length < nmB L 4 2
    · rw [if_pos h2] at h0; exact absurd h0 (by decide)
    · rw [if_neg h2] at h0
      by_cases h3 : nmB L 4 2 < L.length
      · rw [if_pos h3] at h0; exact absurd h0 (by decide)
      · exact ⟨by omega, by omega⟩
theorem udp_cut {h : Ip} {L : List UInt8} (hp : h.p = 17) (h0 : segE h L = 0) {n : Nat} (hn : n < L.length) : segE h (L.take n) = 10 := by
  obtain ⟨h8, hl⟩ := udp_zero hp h0
  have hn' : (L.take n).length = n := by rw [List.length_take]; omega
  unfold segE
  rw [if_neg (by rw [hp]; decide), if_pos hp]
  unfold udpE
  rw [hn']
  by_cases h1 : n < 8
  · rw [if_pos h1]
  · rw [if_neg h1, nmB_pre (l' := L) (N := 6) (by rw [List.take_take, Nat.min_eq_left (by omega)]) (by omega), if_pos (by omega)]
theorem udp_more {h : Ip} {L : List UInt8} (hp : h.p = 17) (h0 : segE h L = 0) {T : List UInt8} (hT : T.length ≠ 0) : segE h (L ++ T) = 11 := by
  obtain ⟨h8, hl⟩ := udp_zero hp h0
  unfold segE
  rw [if_neg (by rw [hp]; decide), if_pos hp]
  unfold udpE
  rw [List.length_append, if_neg (by omega), nmB_pre (l' := L) (N := 6) (by rw [List.take_append_of_le_length (by omega)]) (by omega), if_neg (by omega), if_pos (by omega)]
/-- what was laid can be read. -/
theorem segE_laid {h : Ip} {s : Sg} {O D : List UInt8} (he : putE h s = 0) (ls : h.sb.length = 16) (ld : h.db.length = 16) (hO : O.length = s.no) (hD : D.length = s.nd) (hq : s.q < 4294967296) (hk : s.k < 4294967296) : segE h (segB h s O D) = 0 := by
  rw [segE_of he rfl rfl ls ld hO hD hq hk, if_neg]
  rintro ⟨hn, h1⟩
  exact h1 (sumN_told he hn ls ld hO hD)
theorem InP.datM {W W1 : World} {X X2 : Array Value} {h : Ip} {O D L : List UInt8} {A : Option Addr} {c : Nat} (p : InP W X h O D) (b : Below W.heap.size W W1) (hX : X2 = (ipL (datH h A L.length c)).toArray) (hb : Byt W1 W1.heap.size A L) (hc : L.length ≤ c) (hm : L.length ≤ 140737488351232) (hn : A = none → c = 0) : InP W1 X2 (datH h A L.length c) O L :=
  ⟨⟨hX, p.x.ls, p.x.ld⟩, (p.o.below b).more b.size, p.ol, p.oc, p.om, p.on, hb, rfl, hc, hm, hn⟩
theorem segE_datM (h : Ip) (A : Option Addr) (n c g1 g2 : Nat) (L : List UInt8) : segE (givH (datH h A n c) g1 g2) L = segE h L := rfl
theorem segE_datN (h : Ip) (A : Option Addr) (n c : Nat) (L : List UInt8) : segE (datH h A n c) L = segE h L := rfl
/-- a packet's data set: its row, and all else below. -/
theorem set_dat {w : World} {P : Nat} {X : Array Value} {h : Ip} (x : IpV X h) {t : TypeId} (r : w.heap[P]? = some (.cells X t (0, 0))) (A : Option Addr) (n c : Nat) :
    (w.setCell ⟨P, 42, none⟩ (.slice A n c)).heap[P]? = some (.cells (ipL (datH h A n c)).toArray t (0, 0)) ∧ w.grownBy (w.setCell ⟨P, 42, none⟩ (.slice A n c)) (some P) := by
  have h1 := heap_setCell_same w P 42 _ _ (.slice A n c) r
  rw [x.eq, ip_set42 _ x.ls x.ld] at h1
  exact ⟨h1, grown_set w P 42 (.slice A n c)⟩

set_option maxHeartbeats 8000000 in
theorem segmentCut_any (w : World) (X : Array Value) (h : Ip) (O D : List UInt8) (p : InP w X h O D) (Y : Array Value) (s : Sg) (O2 D2 : List UInt8) (q : InS w Y s O2 D2) (z : Int) (hz0 : -9223372036854775808 ≤ z) (hz1 : z ≤ 9223372036854775807) (A0 : Option Addr) (c0 : Nat) (M : List UInt8) (hMc : M.length ≤ c0) (hMn : M.length ≤ 1048576) (hMb : Byt w w.heap.size A0 M) (hM0 : A0 = none → c0 = 0) :
    Calls Try.prog 4 #[.agg X, .agg Y, .int .i64 z, .slice A0 M.length c0] w fun e w' => e = .returned (.bool true) ∧ Below w.heap.size w w' := by
  obtain ⟨W, hW⟩ : ∃ W, (w.alloc (.cells X 27)).alloc (.cells Y 30) = W := ⟨_, rfl⟩
  obtain ⟨r1, r2, hz, hbW⟩ := two_packs w X _ _ _ W hW
  have hxs := p.x.size
  have hxo := p.x.one
  have hxr := p.x.x0
  have hys := q.x.size
  have hyr := q.x.x0
  have HKEEP := hide (fun (W1 : World) (b : Below W.heap.size W W1) => (⟨(b.block w.heap.size (by omega)).trans r1, (b.block (w.heap.size + 1) (by omega)).trans r2⟩ : W1.heap[w.heap.size]? = some (.cells X 27 (0, 0)) ∧ W1.heap[w.heap.size + 1]? = some (.cells Y 30 (0, 0))))
  have HPR := hide (fun (W1 : World) (b : Below W.heap.size W W1) => ((q.x.cells (HKEEP.out W1 b).2).c0 : W1.cell? ⟨w.heap.size + 1, 0, none⟩ = some (.int .i64 s.p)))
  have KW := hide (fun (W1 : World) (b : Below W.heap.size W W1) => (p.below (hbW.trans (b.mono hbW.size))).within)
  have KG := hide (fun (W1 : World) (b : Below W.heap.size W W1) => (q.below (hbW.trans (b.mono hbW.size))).given)
  have KPut := hide (putWG p q)
  have HP := hide p
  have HQ := hide q
  have HB := hide hbW
  have HZ := hide hz
  have HW := hide hW
  have HM := hide (And.intro hMc (And.intro hMn (And.intro hMb hM0)))
  obtain ⟨E, hE⟩ : ∃ E, E = putE h s := ⟨_, rfl⟩
  obtain ⟨L, hL⟩ : ∃ L, L = putB h s O2 D2 := ⟨_, rfl⟩
  rw [← hE, ← hL] at KPut
  have HE := hide hE
  have HL := hide hL
  clear hz hbW hW hE hL p q hMc hMn hMb hM0
  go_enter Try.func4, Try.ntmps4
  go_upto_region 1 with (fail)
  change Code.wp _ _ _ _ ((w.alloc (.cells X 27)).alloc (.cells Y 30))
  rw [HW.out]
  have x6d : W.drew.heap[w.heap.size]? = some (.cells X 27 (0, 0)) := r1
  have y6d : W.drew.heap[w.heap.size + 1]? = some (.cells Y 30 (0, 0)) := r2
  go_region_held3 (fun w' => w'.heap[w.heap.size]? = some (.cells X 27 (0, 0)) ∧ w'.heap[w.heap.size + 1]? = some (.cells Y 30 (0, 0)))
    (first | exact ⟨r1, r2⟩ | exact ⟨x6d, y6d⟩ | exact ⟨x7, y7⟩ | exact ⟨x8, y8⟩ | exact ⟨x9, y9⟩ | fail)
    (first
      | (go_at_call 9; (with_reducible refine (KW.out W.drew (Below.refl _ _).drew).mono ?_); rintro e w7 ⟨g3, g4, rfl, L3, L4, -, -, b7⟩
         have B7 : Hid (Below W.heap.size W w7) := hide (below_undrew' b7)
         obtain ⟨x7, y7⟩ := HKEEP.out w7 B7.out
         clear b7 L3 L4)
      | (go_at_call 7; (with_reducible refine (KG.out w7 B7.out).mono ?_); rintro e w8 ⟨g5, g6, rfl, L5, L6, -, -, b8⟩
         have B8 : Hid (Below W.heap.size W w8) := hide (B7.out.trans (b8.mono B7.out.size))
         obtain ⟨x8, y8⟩ := HKEEP.out w8 B8.out
         have KPP := hide (KPut.out w8 g3 g4 g5 g6 L5 L6)
         clear b8 L5 L6)
      | (go_at_call 8; (with_reducible refine (KPP.out).mono ?_); rintro e w9 ⟨A9, c9, rfl, o9, b9⟩
         have B9 : Hid (Below W.heap.size W w9) := hide (B8.out.trans (b9.mono B8.out.size))
         have O9 : Hid (OwnB w9 W.heap.size (.slice A9 L.length c9) L) := hide (own_low o9 B8.out.size)
         obtain ⟨x9, y9⟩ := HKEEP.out w9 B9.out
         clear b9 o9)
      | fail)
  all_goals (
    clear r1 r2 x6d y6d x7 y7 x8 y8
    by_cases hE0 : E = 0
    · subst hE0
      obtain ⟨hp, sp, hr, -, hsz⟩ := putE_zero HE.out.symm
      have hLs : L = segB h s O2 D2 := by rw [HL.out]; unfold putB; rw [if_pos HE.out.symm]
      have hLn : L.length = hdN s + s.nd := by rw [hLs]; exact len_segB hr HQ.out.ol HQ.out.dl
      have hL8 : 8 ≤ L.length := by rw [hLn]; unfold hdN; split <;> omega
      have hL65 : L.length ≤ 65535 := by rw [hLn]; exact hsz
      have h0 : segE h L = 0 := by rw [hLs]; exact segE_laid HE.out.symm HP.out.x.ls HP.out.x.ld HQ.out.ol HQ.out.dl HQ.out.x.hq HQ.out.x.hk
      obtain ⟨g, c9, hv9, hlc, hg1, hgl⟩ := O9.out.pos (by omega)
      cases hv9
      have hq0 := count_lt z (n := L.length) (by omega)
      have hcount := hide (count_any z L.length)
      obtain ⟨T, hT⟩ : ∃ T, T = L.take (countS z L.length) := ⟨_, rfl⟩
      have hTl : countS z L.length = T.length := by rw [hT, List.length_take]; omega
      have hTL : T.length ≤ L.length := by omega
      rw [hTl] at hcount
      have HT : Hid (s.p = 17 → segE h T = 10) := hide (fun e => by rw [hT]; exact udp_cut (by rw [← sp]; exact e) h0 hq0)
      have HTM : Hid (s.p = 17 → M.length ≠ 0 → segE h (L ++ M) = 11) := hide (fun e hm => udp_more (by rw [← sp]; exact e) h0 hm)
      have hby9 : Byt w9 w9.heap.size (some ⟨g, 0, none⟩) L := OwnB.byt O9.out hgl
      have hbyT : Byt w9 w9.heap.size (some ⟨g, 0, none⟩) T := by rw [hT]; exact hby9.front _
      have HBY := hide hby9
      have HBYT := hide hbyT
      have HC := hide hlc
      have HG := hide hgl
      have HL8 := hide hL8
      have HL65 := hide hL65
      have HTL := hide hTL
      have hl8 : ¬ (L.length : Int) < 8 := by omega
      have i1 : (0 : Int) ≤ (T.length : Int) := by omega
      have i2 : (T.length : Int) ≤ (c9 : Int) := by omega
      have rp := heap_alloc_new w9 (.cells X 27)
      have k42 := (HP.out.x.cells rp).c42
      have f42 := frozen_of_row _ w9.heap.size 42 _ _ rp
      obtain ⟨r11, g11⟩ := set_dat HP.out.x rp (some ⟨g, 0, none⟩) T.length c9
      have C11 : Below w9.heap.size w9 ((w9.alloc (.cells X 27)).setCell ⟨w9.heap.size, 42, none⟩ (.slice (some ⟨g, 0, none⟩) T.length c9)) := ((Below.refl _ _).alloc (Nat.le_refl _) _).grown g11 (by simp) (fun k e => by cases e; exact Nat.le_refl _)
      have hz11 : w9.heap.size < ((w9.alloc (.cells X 27)).setCell ⟨w9.heap.size, 42, none⟩ (.slice (some ⟨g, 0, none⟩) T.length c9)).heap.size := (Array.getElem?_eq_some_iff.1 r11).1
      obtain ⟨w11, hw11⟩ : ∃ w11, (w9.alloc (.cells X 27)).setCell ⟨w9.heap.size, 42, none⟩ (.slice (some ⟨g, 0, none⟩) T.length c9) = w11 := ⟨_, rfl⟩
      rw [hw11] at r11 C11 hz11
      obtain ⟨X2, hX2⟩ : ∃ X2, X2 = (ipL (datH h (some ⟨g, 0, none⟩) T.length c9)).toArray := ⟨_, rfl⟩
      rw [← hX2] at r11
      have bw11 : Below w.heap.size w w11 := HB.out.trans ((B9.out.trans (C11.mono B9.out.size)).mono HB.out.size)
      have PI : InP w11 X2 (datH h (some ⟨g, 0, none⟩) T.length c9) O T := HP.out.datM bw11 hX2 ((hbyT.below C11).more C11.size) (by omega) (by omega) (fun e => by cases e)
      have h2s := PI.x.size
      have h20 := PI.x.x0
      have KW2 := hide PI.within
      have HPI := hide PI
      have HC11 := hide C11
      have HX2 := hide hX2
      have HZ11 := hide hz11
      have HR11 := hide r11
      clear hp sp hr hsz hLs hLn hL8 hL65 h0 hlc hg1 hgl hq0 hT hTl hTL hby9 hbyT rp g11 C11 bw11 PI hX2 hz11
      go_wp2_with fail
      refine (hcount.out _ (by have := HL8.out; omega) (by have := HL65.out; omega)).mono ?_
      rintro e w1 ⟨rfl, rfl⟩
      dsimp only
      go_wp2_with fail
      clear hw11 k42 f42
      refine KW2.out.mono ?_
      rintro e w12 ⟨g1, g2, rfl, L1, L2, -, -, b12⟩
      have D12 : Hid (Below w11.heap.size w11 w12) := hide b12
      have K := parseG HPI.out w12 g1 g2 L2
      obtain ⟨V, hV⟩ : ∃ V, V = (ipL (givH (datH h (some ⟨g, 0, none⟩) T.length c9) g1 g2)).toArray := ⟨_, rfl⟩
      rw [← hV] at K ⊢
      have HK := hide K
      clear b12 L1 L2 hV K x9 y9 r11
      dsimp only
      go_wp2_with fail
      refine HK.out.mono ?_
      rintro e w13 hq
      obtain ⟨Y5, rfl, hYs, hYo, hY0⟩ := hq.val
      obtain ⟨_, e', b13, -, -⟩ := hq
      cases e'
      rw [segE_datM]
      obtain ⟨E1, hE1⟩ : ∃ E1, E1 = segE h T := ⟨_, rfl⟩
      rw [← hE1]
      have HE1 := hide hE1
      have D14 : Below w11.heap.size w11 (w13.alloc (.cells Y5 31)) := (D12.out.trans (b13.mono D12.out.size)).alloc (D12.out.trans (b13.mono D12.out.size)).size _
      have r14 : (w13.alloc (.cells Y5 31)).heap[w9.heap.size]? = some (.cells X2 27 (0, 0)) := (D14.block w9.heap.size HZ11.out).trans HR11.out
      obtain ⟨w14, hw14⟩ : ∃ w14, w13.alloc (.cells Y5 31) = w14 := ⟨_, rfl⟩
      rw [hw14] at D14 r14
      have K2 := refparseS_any w14 X2 (datH h (some ⟨g, 0, none⟩) T.length c9) HPI.out.x T ((HPI.out.d.below D14).more D14.size) rfl (by have := HC.out; have := HTL.out; show T.length ≤ c9; omega) (by have := HL65.out; have := HTL.out; show T.length ≤ _; omega) (fun e => by cases e)
      have HK2 := hide K2
      have HD14 := hide D14
      clear b13 HK D14 K2 hE1
      dsimp only
      go_wp2_with fail
      refine HK2.out.mono ?_
      rintro e w15 hq
      obtain ⟨Y6, rfl, hYs6, hYo6, hY06⟩ := hq.val
      obtain ⟨_, e', b15, -, -⟩ := hq
      cases e'
      rw [segE_datN, ← HE1.out]
      have D16 : Below w11.heap.size w11 (w15.alloc (.cells Y6 30)) := (HD14.out.trans (b15.mono HD14.out.size)).alloc (HD14.out.trans (b15.mono HD14.out.size)).size _
      obtain ⟨w16, hw16⟩ : ∃ w16, w15.alloc (.cells Y6 30) = w16 := ⟨_, rfl⟩
      rw [hw16] at D16
      have C16 : Hid (Below w9.heap.size w9 w16) := hide (HC11.out.trans (D16.mono HC11.out.size))
      have hpr := HPR.out w16 (B9.out.trans (C16.out.mono B9.out.size))
      have HBY16 : Hid (Byt w16 w9.heap.size (some ⟨g, 0, none⟩) L) := hide (HBY.out.below C16.out)
      have HD16 := hide D16
      clear b15 HK2 D16 r14
      obtain ⟨pp, hpp⟩ : ∃ v, v = s.p := ⟨_, rfl⟩
      rw [← hpp] at hpr
      have HPP := hide hpp
      have hcase : (pp = 17 ∧ E1 = 10) ∨ (pp == 17) = false := by
        by_cases e : pp = 17
        · exact .inl ⟨e, HE1.out.trans (HT.out (by rw [← hpp]; exact e))⟩
        · exact .inr (by simpa using e)
      clear hpp HE1
      obtain ⟨N, hN⟩ : ∃ N, N = L ++ M := ⟨_, rfl⟩
      have HN := hide hN
      have hNl : N.length = L.length + M.length := by rw [hN, List.length_append]
      have HNL := hide hNl
      clear hN hNl
      dsimp only
      rcases hcase with ⟨rfl, rfl⟩ | e17
      all_goals (
        go_wp2_with (at_builtin; refine wpList_app_bytes rfl (.tmp 69) (.tmp 70) rfl w16.heap.size (.slice none 0 0) [] L w9.heap.size c9 (some ⟨g, 0, none⟩) rfl rfl (OwnB.nil _ _) (by exact HBY16.out) (fun e => by cases e) (by have := HL65.out; simp; omega) (by exact Nat.le_refl _) ?_)
        intro v17 w17 o17 g17 a17
        have E17 : Hid (Below w16.heap.size w16 w17) := hide ((Below.refl _ _).grown g17 (Nat.le_refl _) (fun k hk => by simp [Value.ownBlock] at hk))
        have O17 : Hid (OwnB w17 w16.heap.size v17 L) := hide (by simpa using o17)
        have HM17 : Hid (Byt w17 w.heap.size A0 M) := hide (HM.out.2.2.1.below (HB.out.trans ((B9.out.trans ((C16.out.trans (E17.out.mono C16.out.size)).mono B9.out.size)).mono HB.out.size)))
        clear o17 g17 a17 hw16
        go_wp2_with (at_builtin; refine wpList_app_bytes rfl (.tmp 72) (.tmp 73) rfl w16.heap.size v17 L M w.heap.size c0 A0 rfl rfl (by exact O17.out) (by exact HM17.out) HM.out.2.2.2 (by have := HL65.out; have := HM.out.2.1; omega) (by exact E17.out.size) ?_)
        intro v18 w18 o18 g18 a18
        rw [← HN.out] at o18
        have E18 : Below w16.heap.size w16 w18 := E17.out.grown g18 E17.out.size (fun k hk => (World.ownsRow.lt O17.out k hk).1)
        obtain ⟨g8, c8, hv8, hlc8, hg8, hgl8⟩ := o18.pos (by have := HNL.out; have := HL8.out; omega)
        cases hv8
        have D18 : Below w11.heap.size w11 w18 := HD16.out.trans (E18.mono HD16.out.size)
        have r18 : w18.heap[w9.heap.size]? = some (.cells X2 27 (0, 0)) := (D18.block w9.heap.size HZ11.out).trans HR11.out
        have k42 := (HPI.out.x.cells r18).c42
        have f42 := frozen_of_row _ w9.heap.size 42 _ _ r18
        obtain ⟨r19, g19⟩ := set_dat HPI.out.x r18 (some ⟨g8, 0, none⟩) N.length c8
        have C18 : Below w9.heap.size w9 w18 := HC11.out.trans (D18.mono HC11.out.size)
        have C19 : Below w9.heap.size w9 (w18.setCell ⟨w9.heap.size, 42, none⟩ (.slice (some ⟨g8, 0, none⟩) N.length c8)) := C18.grown g19 C18.size (fun k e => by cases e; exact Nat.le_refl _)
        have hne : w9.heap.size < g8 := by have := HD16.out.size; have := HZ11.out; omega
        have o19 : OwnB (w18.setCell ⟨w9.heap.size, 42, none⟩ (.slice (some ⟨g8, 0, none⟩) N.length c8)) w16.heap.size (.slice (some ⟨g8, 0, none⟩) N.length c8) N := World.ownsRow.kept o18 g19 (.inr (by simp [Value.ownBlock]; omega))
        have hby19 := OwnB.byt o19 o19.lt
        obtain ⟨w19, hw19⟩ : ∃ w19, w18.setCell ⟨w9.heap.size, 42, none⟩ (.slice (some ⟨g8, 0, none⟩) N.length c8) = w19 := ⟨_, rfl⟩
        rw [hw19] at r19 C19 hby19
        obtain ⟨X3, hX3⟩ : ∃ X3, X3 = (ipL (datH h (some ⟨g8, 0, none⟩) N.length c8)).toArray := ⟨_, rfl⟩
        have r19' : w19.heap[w9.heap.size]? = some (.cells X3 27 (0, 0)) := by rw [hX3]; exact r19
        have bw19 : Below w.heap.size w w19 := HB.out.trans ((B9.out.trans (C19.mono B9.out.size)).mono HB.out.size)
        have PI2 : InP w19 X3 (datH h (some ⟨g8, 0, none⟩) N.length c8) O N := HP.out.datM bw19 hX3 hby19 hlc8 (by have := HNL.out; have := HL65.out; have := HM.out.2.1; omega) (fun e => by cases e)
        have h3s := PI2.x.size
        have h30 := PI2.x.x0
        have KW3 := hide PI2.within
        have HPI2 := hide PI2
        have HBW19 := hide bw19
        have HZ19 : Hid (w9.heap.size < w19.heap.size) := hide (Array.getElem?_eq_some_iff.1 r19').1
        have HR19 := hide r19'
        have HPR2 : Hid (∀ W1, Below w19.heap.size w19 W1 → W1.cell? ⟨w.heap.size + 1, 0, none⟩ = some (.int .i64 s.p)) := hide (fun W1 b => HPR.out W1 ((B9.out.trans (C19.mono B9.out.size)).trans (b.mono (B9.out.trans (C19.mono B9.out.size)).size)))
        have HC8 := hide hlc8
        clear o18 g18 a18 E18 hlc8 hg8 hgl8 D18 r18 r19 g19 C18 C19 hne o19 hby19 hX3 bw19 PI2 hpr
        go_wp2_with fail
        clear hw19 k42 f42
        refine KW3.out.mono ?_
        rintro e w20 ⟨g1, g2, rfl, L1, L2, -, -, b20⟩
        have F20 : Hid (Below w19.heap.size w19 w20) := hide b20
        have K := parseG HPI2.out w20 g1 g2 L2
        obtain ⟨V3, hV⟩ : ∃ V, V = (ipL (givH (datH h (some ⟨g8, 0, none⟩) N.length c8) g1 g2)).toArray := ⟨_, rfl⟩
        rw [← hV] at K ⊢
        have HK := hide K
        clear b20 L1 L2 hV K r19'
        dsimp only
        go_wp2_with fail
        refine HK.out.mono ?_
        rintro e w21 hq
        obtain ⟨Y7, rfl, hYs7, hYo7, hY07⟩ := hq.val
        obtain ⟨_, e', b21, -, -⟩ := hq
        cases e'
        rw [segE_datM]
        obtain ⟨E2, hE2⟩ : ∃ E2, E2 = segE h N := ⟨_, rfl⟩
        rw [← hE2]
        have HE2 := hide hE2
        have F22 : Below w19.heap.size w19 (w21.alloc (.cells Y7 31)) := (F20.out.trans (b21.mono F20.out.size)).alloc (F20.out.trans (b21.mono F20.out.size)).size _
        have r22 : (w21.alloc (.cells Y7 31)).heap[w9.heap.size]? = some (.cells X3 27 (0, 0)) := (F22.block w9.heap.size HZ19.out).trans HR19.out
        obtain ⟨w22, hw22⟩ : ∃ w22, w21.alloc (.cells Y7 31) = w22 := ⟨_, rfl⟩
        rw [hw22] at F22 r22
        have K2 := refparseS_any w22 X3 (datH h (some ⟨g8, 0, none⟩) N.length c8) HPI2.out.x N ((HPI2.out.d.below F22).more F22.size) rfl (by have := HC8.out; show N.length ≤ c8; omega) (by have := HPI2.out.dm; exact this) (fun e => by cases e)
        have HK2 := hide K2
        have HF22 := hide F22
        clear b21 HK F22 K2 hE2
        dsimp only
        go_wp2_with fail
        refine HK2.out.mono ?_
        rintro e w23 hq
        obtain ⟨Y8, rfl, hYs8, hYo8, hY08⟩ := hq.val
        obtain ⟨_, e', b23, -, -⟩ := hq
        cases e'
        rw [segE_datN, ← HE2.out]
        have F23 : Hid (Below w19.heap.size w19 w23) := hide (HF22.out.trans (b23.mono HF22.out.size))
        have hp23 := HPR2.out w23 F23.out
        rw [← HPP.out] at hp23
        have HW23 : Hid (Below w.heap.size w w23) := hide (HBW19.out.trans (F23.out.mono HBW19.out.size))
        clear b23 HK2 hw22 r22
        dsimp only
        by_cases hM0 : M.length = 0
        · have em : ((M.length : Int) == 0) = true := by rw [beq_iff_eq]; omega
          go_wp2_with fail
          refine (knownS_any _).mono ?_
          rintro e w24 ⟨rfl, b24⟩
          have B24 : Hid (Below w.heap.size w w24) := hide (HW23.out.trans (b24.mono HW23.out.size))
          clear b24
          dsimp only
          go_wp2
          go_ret
          exact ⟨rfl, B24.out⟩
        · have em : ((M.length : Int) == 0) = false := by rw [beq_eq_false_iff_ne]; omega
          try have n17 : (pp != 17) = true := by rw [bne, e17]; rfl
          first
            | (have h11 : E2 = 11 := by rw [HE2.out, HN.out]; exact HTM.out HPP.out.symm hM0
               subst h11
               go_wp2_with fail
               refine (knownS_any _).mono ?_
               rintro e w24 ⟨rfl, b24⟩
               have B24 : Hid (Below w.heap.size w w24) := hide (HW23.out.trans (b24.mono HW23.out.size))
               clear b24
               dsimp only
               go_wp2
               go_ret
               exact ⟨rfl, B24.out⟩)
            | (go_wp2_with fail
               refine (knownS_any _).mono ?_
               rintro e w24 ⟨rfl, b24⟩
               have B24 : Hid (Below w.heap.size w w24) := hide (HW23.out.trans (b24.mono HW23.out.size))
               clear b24
               dsimp only
               go_wp2
               go_ret
               exact ⟨rfl, B24.out⟩))
    · have hEb : (E != 0) = true := by simpa using hE0
      have hL0 : L = [] := by rw [HL.out]; unfold putB; rw [if_neg (by rw [← HE.out]; exact hE0)]
      subst hL0
      go_wp2_with fail
      refine (knownS_any w9).mono ?_
      rintro e w10 ⟨rfl, b10⟩
      have B10 : Hid (Below w.heap.size w w10) := hide (HB.out.trans ((B9.out.trans (b10.mono B9.out.size)).mono HB.out.size))
      clear b10
      dsimp only
      go_wp2
      go_ret
      exact ⟨rfl, B10.out⟩)
end Go.Proofs.Ytcfckhdohcaffaa
