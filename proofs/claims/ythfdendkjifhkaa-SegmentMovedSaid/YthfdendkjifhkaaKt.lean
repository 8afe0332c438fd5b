/-
  The walk of the statement SegmentTurned.
-/
import Derived.Test.YthfdendkjifhkaaKr
import Derived.Test.YthfdendkjifhkaaKs
import Derived.Deep.RegionHeld3
namespace Go.Proofs.Ythfdendkjifhkaa
open Go.RowKit
attribute [local go_sem ↓] exec_span exec_put exec_build heap_alloc_new heap_old heap_alloc_drew
attribute [local go_sem] spanQ_ptr spanC_some heap_of_drew heap_of_drewN rs_arr rs_ad rs_ip rs_rip rs_seg rs_rseg putAt_ptr putOk_ptr oldOk_some World.setRow_alloc_new setRow_drew
set_option maxRecDepth 100000
set_option linter.unusedVariables false
set_option linter.unusedSimpArgs false

theorem turn_v5 (x : UInt8) {b : Nat} (hb : b < 8) : bits .xor .u8 (x.toNat : Int) (2 ^ b % 256) = ((turnU x b).toNat : Int) := by
  have hp : 2 ^ b < 256 := by
    have : 2 ^ b < 2 ^ 8 := Nat.pow_lt_pow_right (by omega) hb
    omega
  have h := u8_xor_nat x.toNat (2 ^ b) x.toNat_lt hp
  rw [turnU_toNat x hb, ← h]
  congr 1
  have e : ((2 : Int) ^ b) = ((2 ^ b : Nat) : Int) := by simp
  rw [e]
  generalize 2 ^ b = m at hp
  omega
/-- what one turned bit makes of a row of the call's own. -/
theorem own_turn5 {w : World} {base g c : Nat} {l : List UInt8} (h : OwnB w base (.slice (some ⟨g, 0, none⟩) l.length c) l) {q : Nat} (hq : q / 8 < l.length) {x : UInt8} (hx : x = l[q / 8]) :
    OwnB (w.setCell ⟨g, q / 8, none⟩ (.int .u8 (bits .xor .u8 (x.toNat : Int) (2 ^ (q % 8) % 256)))) base (.slice (some ⟨g, 0, none⟩) l.length c) (turnL l q) := by
  rw [turn_v5 x (by omega)]
  have e : turnL l q = l.set (q / 8) (turnU x (q % 8)) := by
    unfold turnL
    rw [hx]
    simp [List.getD_eq_getElem?_getD, List.getElem?_eq_getElem hq]
  rw [e]
  exact putByte h (q / 8) hq (turnU x (q % 8))
/-- what within, given and Put leave: the bytes, or why not. -/
def PutD (w : World) (h : Ip) (s : Sg) (O2 D2 : List UInt8) (v : Value) (w' : World) : Prop := ∃ A c, v = .slice A (putB h s O2 D2).length c ∧ OwnB w' w.heap.size v (putB h s O2 D2) ∧ Below w.heap.size w w'
/-- the packet with other data. -/
theorem InP.dat {W W1 : World} {X X2 : Array Value} {h : Ip} {O D L : List UInt8} {A : Option Addr} {c : Nat} (p : InP W X h O D) (b : Below W.heap.size W W1) (hX : X2 = (ipL (datH h A L.length c)).toArray) (hb : Byt W1 W1.heap.size A L) (hc : L.length ≤ c) (hm : L.length ≤ 65535) (hn : A = none → c = 0) : InP W1 X2 (datH h A L.length c) O L :=
  ⟨⟨hX, p.x.ls, p.x.ld⟩, (p.o.below b).more b.size, p.ol, p.oc, p.om, p.on, hb, rfl, hc, Nat.le_trans hm (by decide), hn⟩
theorem segE_dat (h : Ip) (A : Option Addr) (n c g1 g2 : Nat) (L : List UInt8) : segE (givH (datH h A n c) g1 g2) L = segE h L := rfl
theorem gotS_dat (h : Ip) (A : Option Addr) (n c g1 g2 : Nat) (L : List UInt8) (ao : Option Addr) (co : Nat) (ad : Option Addr) (cd : Nat) : gotS (givH (datH h A n c) g1 g2) L ao co ad cd = gotS h L ao co ad cd := rfl

set_option maxHeartbeats 8000000 in
theorem segmentTurned_any (w : World) (X : Array Value) (h : Ip) (O D : List UInt8) (p : InP w X h O D) (Y : Array Value) (s : Sg) (O2 D2 : List UInt8) (q : InS w Y s O2 D2) (z : Int) (hz0 : -9223372036854775808 ≤ z) (hz1 : z ≤ 9223372036854775807) :
    Calls Try.prog 4 #[.agg X, .agg Y, .int .i64 z] w fun e w' => e = .returned (.bool true) ∧ Below w.heap.size w w' := by
  obtain ⟨W, hW⟩ : ∃ W, (w.alloc (.cells X 27)).alloc (.cells Y 30) = W := ⟨_, rfl⟩
  obtain ⟨r1, r2, hz, hbW⟩ := two_packs w X _ _ _ W hW
  have hxs := p.x.size
  have hxo := p.x.one
  have hxr := p.x.x0
  have hys := q.x.size
  have hyr := q.x.x0
  have HKEEP := hide (fun (W1 : World) (b : Below W.heap.size W W1) => (⟨(b.block w.heap.size (by omega)).trans r1, (b.block (w.heap.size + 1) (by omega)).trans r2⟩ : W1.heap[w.heap.size]? = some (.cells X 27 (0, 0)) ∧ W1.heap[w.heap.size + 1]? = some (.cells Y 30 (0, 0))))
  have HNS := hide (fun (W1 : World) (b : Below W.heap.size W W1) => ((q.x.cells (HKEEP.out W1 b).2).c8 : W1.cell? ⟨w.heap.size + 1, 8, none⟩ = some (.bool s.ns)))
  have KW := hide (fun (W1 : World) (b : Below W.heap.size W W1) => (p.below (hbW.trans (b.mono hbW.size))).within)
  have KG := hide (fun (W1 : World) (b : Below W.heap.size W W1) => (q.below (hbW.trans (b.mono hbW.size))).given)
  have KPut := hide (putWG p q)
  have HP := hide p
  have HQ := hide q
  have HB := hide hbW
  have HZ := hide hz
  have HW := hide hW
  obtain ⟨E, hE⟩ : ∃ E, E = putE h s := ⟨_, rfl⟩
  obtain ⟨L, hL⟩ : ∃ L, L = putB h s O2 D2 := ⟨_, rfl⟩
  rw [← hE, ← hL] at KPut
  have HE := hide hE
  have HL := hide hL
  clear hz hbW hW hE hL p q
  go_enter Try.func4, Try.ntmps4
  go_upto_region 1 with (fail)
  change Code.wp _ _ _ _ ((w.alloc (.cells X 27)).alloc (.cells Y 30))
  rw [HW.out]
  have x6d : W.drew.heap[w.heap.size]? = some (.cells X 27 (0, 0)) := r1
  have y6d : W.drew.heap[w.heap.size + 1]? = some (.cells Y 30 (0, 0)) := r2
  go_region_held3 (fun w' => w'.heap[w.heap.size]? = some (.cells X 27 (0, 0)) ∧ w'.heap[w.heap.size + 1]? = some (.cells Y 30 (0, 0)))
    (first | exact ⟨r1, r2⟩ | exact ⟨x6d, y6d⟩ | exact ⟨x7, y7⟩ | exact ⟨x8, y8⟩ | exact ⟨x9, y9⟩ | fail)
    (first
      | (go_at_call 15; (with_reducible refine (KW.out W.drew (Below.refl _ _).drew).mono ?_); rintro e w7 ⟨g3, g4, rfl, L3, L4, -, -, b7⟩
         have B7 : Hid (Below W.heap.size W w7) := hide (below_undrew' b7)
         obtain ⟨x7, y7⟩ := HKEEP.out w7 B7.out
         clear b7 L3 L4)
      | (go_at_call 13; (with_reducible refine (KG.out w7 B7.out).mono ?_); rintro e w8 ⟨g5, g6, rfl, L5, L6, -, -, b8⟩
         have B8 : Hid (Below W.heap.size W w8) := hide (B7.out.trans (b8.mono B7.out.size))
         obtain ⟨x8, y8⟩ := HKEEP.out w8 B8.out
         have KPP := hide (KPut.out w8 g3 g4 g5 g6 L5 L6)
         clear b8 L5 L6)
      | (go_at_call 14; (with_reducible refine (KPP.out).mono ?_); rintro e w9 ⟨A9, c9, rfl, o9, b9⟩
         have B9 : Hid (Below W.heap.size W w9) := hide (B8.out.trans (b9.mono B8.out.size))
         have O9 : Hid (OwnB w9 W.heap.size (.slice A9 L.length c9) L) := hide (own_low o9 B8.out.size)
         obtain ⟨x9, y9⟩ := HKEEP.out w9 B9.out
         clear b9 o9)
      | fail)
  all_goals (
    have n9 := HNS.out w9 B9.out
    clear r1 r2 x6d y6d x7 y7 x8 y8
    by_cases hE0 : E = 0
    · subst hE0
      by_cases hns : s.ns = true
      · rw [hns] at n9
        go_wp2_with fail
        refine (knownS_any w9).mono ?_
        rintro e w10 ⟨rfl, b10⟩
        have B10 : Hid (Below w.heap.size w w10) := hide (HB.out.trans ((B9.out.trans (b10.mono B9.out.size)).mono HB.out.size))
        clear b10
        dsimp only
        go_wp2
        go_ret
        exact ⟨rfl, B10.out⟩
      · have hnf : s.ns = false := by simpa using hns
        rw [hnf] at n9
        obtain ⟨hp, sp, hr, -, hsz⟩ := putE_zero HE.out.symm
        have hLs : L = segB h s O2 D2 := by rw [HL.out]; unfold putB; rw [if_pos HE.out.symm]
        have hLn : L.length = hdN s + s.nd := by rw [hLs]; exact len_segB hr HQ.out.ol HQ.out.dl
        have hL8 : 8 ≤ L.length := by rw [hLn]; unfold hdN; split <;> omega
        have hL65 : L.length ≤ 65535 := by rw [hLn]; exact hsz
        have HT : Hid (∀ qq, qq < 8 * L.length → segE h (turnL L qq) = 0 → ∀ ao co ad cd, (gotS h (turnL L qq) ao co ad cd).ns = true) := hide (fun qq hq h0 => by
          rw [hLs] at hq h0 ⊢
          exact segE_turn HE.out.symm hnf HP.out.x.ls HP.out.x.ld HQ.out.ol HQ.out.dl hq h0)
        obtain ⟨g, cap, hv9, hlc, hg1, hgl⟩ := O9.out.pos (by omega)
        cases hv9
        have hq0 := count_lt z (n := 8 * L.length) (by omega)
        have hcount := hide (count_any z (8 * L.length) w9 (by omega) (by omega))
        obtain ⟨qq, hqq⟩ : ∃ qq, qq = countS z (8 * L.length) := ⟨_, rfl⟩
        rw [← hqq] at hq0 hcount
        have hw8 : IntKind.i64.wrap (8 * (L.length : Int)) = ((8 * L.length : Nat) : Int) := by rw [show 8 * (L.length : Int) = ((8 * L.length : Nat) : Int) by omega]; exact IntWalk.i64_in _ (by omega)
        have hl8 : ¬ (L.length : Int) < 8 := by omega
        have HLS := hide hLs
        have HLN := hide hLn
        have HLC := hide hlc
        have HG1 := hide hg1
        have HGL := hide hgl
        clear hqq hLs hLn hp sp hr hsz hlc hg1 hgl
        go_wp2_with fail
        refine hcount.out.mono ?_
        rintro e w1 ⟨rfl, rfl⟩
        have hlt8 : qq / 8 < L.length := by omega
        obtain ⟨x, hx0⟩ : ∃ x, x = L[qq / 8] := ⟨_, rfl⟩
        have hx : x.toNat ≤ 255 := by have := x.toNat_lt; omega
        have hd0 : w9.cell? ⟨g, qq / 8, none⟩ = some (.int .u8 (x.toNat : Int)) := by rw [hx0]; exact O9.out.cell (qq / 8) hlt8
        have hf0 : w9.frozen? ⟨g, qq / 8, none⟩ = false := O9.out.frozen _
        have ho10 := own_turn5 O9.out hlt8 hx0
        have hgr := (World.ownsRow.stored O9.out (qq / 8) (.int .u8 (bits .xor .u8 (x.toNat : Int) (2 ^ (qq % 8) % 256)))).2
        have hb10 : Below W.heap.size W (w9.setCell ⟨g, qq / 8, none⟩ (.int .u8 (bits .xor .u8 (x.toNat : Int) (2 ^ (qq % 8) % 256)))) := B9.out.grown hgr B9.out.size (fun k hk => by cases hk; exact HG1.out)
        obtain ⟨w10, hw10⟩ : ∃ w10, w9.setCell ⟨g, qq / 8, none⟩ (.int .u8 (bits .xor .u8 (x.toNat : Int) (2 ^ (qq % 8) % 256))) = w10 := ⟨_, rfl⟩
        rw [hw10] at ho10 hb10
        have HO10 := hide ho10
        have B10 := hide hb10
        clear hx0 ho10 hgr hb10 x9 y9
        obtain ⟨T, hT⟩ : ∃ T, T = turnL L qq := ⟨_, rfl⟩
        have hTl : T.length = L.length := by rw [hT, length_turnL]
        rw [← hT] at HO10
        have HTT : Hid (segE h T = 0 → ∀ ao co ad cd, (gotS h T ao co ad cd).ns = true) := hide (by rw [hT]; exact HT.out qq hq0)
        obtain ⟨x10, y10⟩ := HKEEP.out w10 B10.out
        have rp := heap_alloc_new w10 (.cells X 27)
        have bp : Below w10.heap.size w10 (w10.alloc (.cells X 27)) := (Below.refl _ _).alloc (Nat.le_refl _) _
        have hap : OwnB (w10.alloc (.cells X 27)) W.heap.size (.slice (some ⟨g, 0, none⟩) L.length c9) T := World.ownsRow.alloc HO10.out _
        have k42 := (HP.out.x.cells rp).c42
        have f42 := frozen_of_row _ w10.heap.size 42 _ _ rp
        have r11 := heap_setCell_same _ w10.heap.size 42 _ _ (.slice (some ⟨g, 0, none⟩) L.length c9) rp
        have g11 := grown_set (w10.alloc (.cells X 27)) w10.heap.size 42 (.slice (some ⟨g, 0, none⟩) L.length c9)
        have hgn : g < w10.heap.size := HO10.out.lt
        have b11 : Below W.heap.size W ((w10.alloc (.cells X 27)).setCell ⟨w10.heap.size, 42, none⟩ (.slice (some ⟨g, 0, none⟩) L.length c9)) := (B10.out.trans (bp.mono B10.out.size)).grown g11 (by have := B10.out.size; have := bp.size; omega) (fun i e => by cases e; exact B10.out.size)
        have o11 : OwnB ((w10.alloc (.cells X 27)).setCell ⟨w10.heap.size, 42, none⟩ (.slice (some ⟨g, 0, none⟩) L.length c9)) W.heap.size (.slice (some ⟨g, 0, none⟩) L.length c9) T := World.ownsRow.kept hap g11 (.inr (by simp [Value.ownBlock]; omega))
        rw [HP.out.x.eq, ip_set42 _ HP.out.x.ls HP.out.x.ld] at r11
        obtain ⟨X2, hX2⟩ : ∃ X2, X2 = (ipL (datH h (some ⟨g, 0, none⟩) T.length c9)).toArray := ⟨_, rfl⟩
        have hX2' : (ipL { h with ad := some ⟨g, 0, none⟩, nd := L.length, cd := c9 }).toArray = X2 := by rw [hX2, hTl]; rfl
        rw [hX2'] at r11
        obtain ⟨w11, hw11⟩ : ∃ w11, (w10.alloc (.cells X 27)).setCell ⟨w10.heap.size, 42, none⟩ (.slice (some ⟨g, 0, none⟩) L.length c9) = w11 := ⟨_, rfl⟩
        have r11' : w11.heap[w10.heap.size]? = some (.cells X2 27 (0, 0)) := by rw [← hw11, HP.out.x.eq] at *; exact r11
        rw [hw11] at b11 o11
        have bw11 := HB.out.trans (b11.mono HB.out.size)
        have PI : InP w11 X2 (datH h (some ⟨g, 0, none⟩) T.length c9) O T := HP.out.dat bw11 hX2 (OwnB.byt (c := c9) (by rw [hTl]; exact o11) (by exact o11.lt)) (by rw [hTl]; exact HLC.out) (by rw [hTl]; exact hL65) (fun e => by cases e)
        have h2s := PI.x.size
        have h20 := PI.x.x0
        have KW2 := hide PI.within
        have HPI := hide PI
        have B11 := hide b11
        clear rp bp hap r11 g11 b11 o11 bw11 PI hX2 hX2' hT y10 hgn
        dsimp only
        go_wp2_with fail
        clear hw11 k42 f42
        refine KW2.out.mono ?_
        rintro e w12 ⟨g1, g2, rfl, L1, L2, -, -, b12⟩
        have B12 : Hid (Below W.heap.size W w12) := hide (B11.out.trans (b12.mono B11.out.size))
        have K := parseG HPI.out w12 g1 g2 L2
        obtain ⟨V, hV⟩ : ∃ V, V = (ipL (givH (datH h (some ⟨g, 0, none⟩) T.length c9) g1 g2)).toArray := ⟨_, rfl⟩
        rw [← hV] at K ⊢
        have HK := hide K
        clear b12 L1 L2 hV K r11'
        dsimp only
        go_wp2_with fail
        refine HK.out.mono ?_
        rintro e w13 hq
        obtain ⟨Y5, rfl, hYs, hYo, hY0⟩ := hq.val
        obtain ⟨_, e', b13, -, hok⟩ := hq
        cases e'
        rw [segE_dat] at hok ⊢
        have B13 : Hid (Below W.heap.size W w13) := hide (B12.out.trans (b13.mono B12.out.size))
        have b14 : Below w13.heap.size w13 (w13.alloc (.cells Y5 31)) := (Below.refl _ _).alloc (Nat.le_refl _) _
        have r14 := heap_alloc_new w13 (.cells Y5 31)
        have B14 : Hid (Below W.heap.size W (w13.alloc (.cells Y5 31))) := hide (B13.out.trans (b14.mono B13.out.size))
        clear b13 b14 HK
        by_cases h0 : segE h T = 0
        · obtain ⟨ao, co, ad, cd, V5, -, -⟩ := hok h0
          have c8 := (V5.cells r14).c8
          rw [gotS_dat, HTT.out h0] at c8
          rw [h0]
          clear hok V5 h0
          dsimp only
          go_wp2_with fail
          refine (knownS_any _).mono ?_
          rintro e w15 ⟨rfl, b15⟩
          have B15 : Hid (Below w.heap.size w w15) := hide (HB.out.trans ((B14.out.trans (b15.mono B14.out.size)).mono HB.out.size))
          clear b15
          dsimp only
          go_wp2
          go_ret
          exact ⟨rfl, B15.out⟩
        · have h0b : (segE h T != 0) = true := by simpa using h0
          obtain ⟨E5, hE5⟩ : ∃ E5, E5 = segE h T := ⟨_, rfl⟩
          rw [← hE5] at h0b ⊢
          clear hok h0 hE5
          dsimp only
          go_wp2_with fail
          refine (knownS_any _).mono ?_
          rintro e w15 ⟨rfl, b15⟩
          have B15 : Hid (Below w.heap.size w w15) := hide (HB.out.trans ((B14.out.trans (b15.mono B14.out.size)).mono HB.out.size))
          clear b15
          dsimp only
          go_wp2
          go_ret
          exact ⟨rfl, B15.out⟩
    · have hEb : (E != 0) = true := by simpa using hE0
      go_wp2_with fail
      refine (knownS_any w9).mono ?_
      rintro e w10 ⟨rfl, b10⟩
      have B10 : Hid (Below w.heap.size w w10) := hide (HB.out.trans ((B9.out.trans (b10.mono B9.out.size)).mono HB.out.size))
      clear b10
      dsimp only
      go_wp2
      go_ret
      exact ⟨rfl, B10.out⟩)
end Go.Proofs.Ythfdendkjifhkaa
