/-
  The walk of the statement SegmentMoved.
-/
import Derived.Test.YthfdendkjifhkaaKt
import Derived.Test.YthfdendkjifhkaaKu
import Derived.Deep.RegionHeld3
namespace Go.Proofs.Ythfdendkjifhkaa
open Go.RowKit
attribute [local go_sem ↓] exec_span exec_put exec_build heap_alloc_new heap_old heap_alloc_drew
attribute [local go_sem] spanQ_ptr spanC_some heap_of_drew heap_of_drewN rs_arr rs_ad rs_ip rs_rip rs_seg rs_rseg putAt_ptr putOk_ptr oldOk_some World.setRow_alloc_new setRow_drew
set_option maxRecDepth 100000
set_option linter.unusedVariables false
set_option linter.unusedSimpArgs false

/-- the packet with other data, from and to other addresses. -/
def movH (h : Ip) (S D : List UInt8) (ad : Option Addr) (nd cd : Nat) : Ip := { h with sb := S, db := D, ad := ad, nd := nd, cd := cd }
theorem ip_setS (h : Ip) (ls : h.sb.length = 16) (j : Nat) (hj : j < 16) (u : UInt8) : (ipL h).toArray.setIfInBounds (2 + j) (.int .u8 (u.toNat : Int)) = (ipL { h with sb := h.sb.set j u }).toArray := by
  rw [List.setIfInBounds_toArray]
  congr 1
  rw [Nat.add_comm 2 j]
  simp only [ipL, adL, List.cons_append, List.set_cons_succ]
  rw [List.set_append_left _ _ (by rw [List.length_map]; omega), List.map_set]
  rfl
theorem ip_setD (h : Ip) (ls : h.sb.length = 16) (ld : h.db.length = 16) (j : Nat) (hj : j < 16) (u : UInt8) : (ipL h).toArray.setIfInBounds (19 + j) (.int .u8 (u.toNat : Int)) = (ipL { h with db := h.db.set j u }).toArray := by
  rw [List.setIfInBounds_toArray]
  congr 1
  rw [show 19 + j = (1 + ((adL h.sv h.sb).length + (j + 1))) by rw [lenI_adL ls]; omega, Nat.add_comm 1]
  simp only [ipL, List.set_cons_succ]
  rw [List.set_append_right _ _ (Nat.le_add_right _ _), Nat.add_sub_cancel_left]
  simp only [adL, List.cons_append, List.set_cons_succ]
  rw [List.set_append_left _ _ (by rw [List.length_map]; omega), List.map_set]
  rfl
theorem turn_set {l : List UInt8} {q : Nat} (hq : q / 8 < l.length) : turnL l q = l.set (q / 8) (turnU l[q / 8] (q % 8)) := by
  unfold turnL
  simp [List.getD_eq_getElem?_getD, List.getElem?_eq_getElem hq]
theorem InP.mov {W W1 : World} {X X2 : Array Value} {h : Ip} {O D L S' D' : List UInt8} {A : Option Addr} {c : Nat} (p : InP W X h O D) (b : Below W.heap.size W W1) (hX : X2 = (ipL (movH h S' D' A L.length c)).toArray) (hS : S'.length = 16) (hD : D'.length = 16) (hb : Byt W1 W1.heap.size A L) (hc : L.length ≤ c) (hm : L.length ≤ 65535) (hn : A = none → c = 0) : InP W1 X2 (movH h S' D' A L.length c) O L :=
  ⟨⟨hX, hS, hD⟩, (p.o.below b).more b.size, p.ol, p.oc, p.om, p.on, hb, rfl, hc, Nat.le_trans hm (by decide), hn⟩

set_option maxHeartbeats 8000000 in
theorem segmentMoved_any (w : World) (X : Array Value) (h : Ip) (O D : List UInt8) (p : InP w X h O D) (Y : Array Value) (s : Sg) (O2 D2 : List UInt8) (q : InS w Y s O2 D2) (z : Int) (fr : Bool) (hz0 : -9223372036854775808 ≤ z) (hz1 : z ≤ 9223372036854775807) :
    Calls Try.prog 5 #[.agg X, .agg Y, .int .i64 z, .bool fr] w fun e w' => e = .returned (.bool true) ∧ Below w.heap.size w w' := by
  obtain ⟨W, hW⟩ : ∃ W, (w.alloc (.cells X 27)).alloc (.cells Y 30) = W := ⟨_, rfl⟩
  obtain ⟨r1, r2, hz, hbW⟩ := two_packs w X _ _ _ W hW
  have hxs := p.x.size
  have hxo := p.x.one
  have hxr := p.x.x0
  have hys := q.x.size
  have hyr := q.x.x0
  have HKEEP := hide (fun (W1 : World) (b : Below W.heap.size W W1) => (⟨(b.block w.heap.size (by omega)).trans r1, (b.block (w.heap.size + 1) (by omega)).trans r2⟩ : W1.heap[w.heap.size]? = some (.cells X 27 (0, 0)) ∧ W1.heap[w.heap.size + 1]? = some (.cells Y 30 (0, 0))))
  have HNS := hide (fun (W1 : World) (b : Below W.heap.size W W1) => ((q.x.cells (HKEEP.out W1 b).2).c8 : W1.cell? ⟨w.heap.size + 1, 8, none⟩ = some (.bool s.ns)))
  have KW := hide (fun (W1 : World) (b : Below W.heap.size W W1) => (p.below (hbW.trans (b.mono hbW.size))).within)
  have KG := hide (fun (W1 : World) (b : Below W.heap.size W W1) => (q.below (hbW.trans (b.mono hbW.size))).given)
  have KPut := hide (putWG p q)
  have HP := hide p
  have HQ := hide q
  have HB := hide hbW
  have HZ := hide hz
  have HW := hide hW
  obtain ⟨E, hE⟩ : ∃ E, E = putE h s := ⟨_, rfl⟩
  obtain ⟨L, hL⟩ : ∃ L, L = putB h s O2 D2 := ⟨_, rfl⟩
  rw [← hE, ← hL] at KPut
  have HE := hide hE
  have HL := hide hL
  clear hz hbW hW hE hL p q
  go_enter Try.func5, Try.ntmps5
  go_upto_region 1 with (fail)
  change Code.wp _ _ _ _ ((w.alloc (.cells X 27)).alloc (.cells Y 30))
  rw [HW.out]
  have x6d : W.drew.heap[w.heap.size]? = some (.cells X 27 (0, 0)) := r1
  have y6d : W.drew.heap[w.heap.size + 1]? = some (.cells Y 30 (0, 0)) := r2
  go_region_held3 (fun w' => w'.heap[w.heap.size]? = some (.cells X 27 (0, 0)) ∧ w'.heap[w.heap.size + 1]? = some (.cells Y 30 (0, 0)))
    (first | exact ⟨r1, r2⟩ | exact ⟨x6d, y6d⟩ | exact ⟨x7, y7⟩ | exact ⟨x8, y8⟩ | exact ⟨x9, y9⟩ | fail)
    (first
      | (go_at_call 15; (with_reducible refine (KW.out W.drew (Below.refl _ _).drew).mono ?_); rintro e w7 ⟨g3, g4, rfl, L3, L4, -, -, b7⟩
         have B7 : Hid (Below W.heap.size W w7) := hide (below_undrew' b7)
         obtain ⟨x7, y7⟩ := HKEEP.out w7 B7.out
         clear b7 L3 L4)
      | (go_at_call 13; (with_reducible refine (KG.out w7 B7.out).mono ?_); rintro e w8 ⟨g5, g6, rfl, L5, L6, -, -, b8⟩
         have B8 : Hid (Below W.heap.size W w8) := hide (B7.out.trans (b8.mono B7.out.size))
         obtain ⟨x8, y8⟩ := HKEEP.out w8 B8.out
         have KPP := hide (KPut.out w8 g3 g4 g5 g6 L5 L6)
         clear b8 L5 L6)
      | (go_at_call 14; (with_reducible refine (KPP.out).mono ?_); rintro e w9 ⟨A9, c9, rfl, o9, b9⟩
         have B9 : Hid (Below W.heap.size W w9) := hide (B8.out.trans (b9.mono B8.out.size))
         have O9 : Hid (OwnB w9 W.heap.size (.slice A9 L.length c9) L) := hide (own_low o9 B8.out.size)
         obtain ⟨x9, y9⟩ := HKEEP.out w9 B9.out
         clear b9 o9)
      | fail)
  all_goals (
    have n9 := HNS.out w9 B9.out
    clear r1 r2 x6d y6d x7 y7 x8 y8
    by_cases hE0 : E = 0
    · subst hE0
      by_cases hns : s.ns = true
      · rw [hns] at n9
        go_wp2_with fail
        refine (knownS_any w9).mono ?_
        rintro e w10 ⟨rfl, b10⟩
        have B10 : Hid (Below w.heap.size w w10) := hide (HB.out.trans ((B9.out.trans (b10.mono B9.out.size)).mono HB.out.size))
        clear b10
        dsimp only
        go_wp2
        go_ret
        exact ⟨rfl, B10.out⟩
      · have hnf : s.ns = false := by simpa using hns
        rw [hnf] at n9
        obtain ⟨hp, sp, hr, -, hsz⟩ := putE_zero HE.out.symm
        have hLs : L = segB h s O2 D2 := by rw [HL.out]; unfold putB; rw [if_pos HE.out.symm]
        have hLn : L.length = hdN s + s.nd := by rw [hLs]; exact len_segB hr HQ.out.ol HQ.out.dl
        have hL8 : 8 ≤ L.length := by rw [hLn]; unfold hdN; split <;> omega
        have hL65 : L.length ≤ 65535 := by rw [hLn]; exact hsz
        obtain ⟨n, hn⟩ : ∃ n, n = 8 * adN h := ⟨_, rfl⟩
        have hn0 : 0 < n := by rw [hn]; unfold adN; split <;> omega
        have hn128 : n ≤ 128 := by rw [hn]; unfold adN; split <;> omega
        have hq0 := count_lt z (n := n) hn0
        have hcount := hide (count_any z n)
        obtain ⟨qq, hqq⟩ : ∃ qq, qq = countS z n := ⟨_, rfl⟩
        rw [← hqq] at hq0 hcount
        have HT : Hid (∀ h3 : Ip, h3.p = h.p → h3.v = h.v → h3.sb = (if fr then turnL h.sb qq else h.sb) → h3.db = (if fr then h.db else turnL h.db qq) → segE h3 L = 12) := hide (fun h3 e1 e2 e3 e4 => by
          obtain ⟨k1, k2⟩ := atS_two HE.out.symm
          rw [hLs, segE_of HE.out.symm e1 e2 HP.out.x.ls HP.out.x.ld HQ.out.ol HQ.out.dl HQ.out.x.hq HQ.out.x.hk, if_pos]
          refine ⟨hnf, ?_⟩
          rw [sumN_told HE.out.symm hnf HP.out.x.ls HP.out.x.ld HQ.out.ol HQ.out.dl]
          exact (sum_moved (segB h s O2 D2) (atS h.p) qq fr HP.out.x.ls HP.out.x.ld k1 (by rw [← hLs, hLn]; omega) hp e1 e2 (by rw [← hn]; exact hq0) e3 e4).symm)
        obtain ⟨g, cap, hv9, hlc, hg1, hgl⟩ := O9.out.pos (by omega)
        cases hv9
        obtain ⟨v, hv⟩ : ∃ v, v = h.v := ⟨_, rfl⟩
        have hnv : n = if v = true then 128 else 32 := by rw [hn, hv]; unfold adN; split <;> simp_all
        have HLN := hide hLn
        have HLC := hide hlc
        have HG1 := hide hg1
        clear hqq hLs hLn hp sp hr hsz hg1 hgl hn
        -- the copy of the packet, with the segment as its data
        have c0 : w9.cell? ⟨w.heap.size, 0, none⟩ = some (.bool v) := by rw [hv]; exact (HP.out.x.cells x9).c0
        have rp := heap_alloc_new w9 (.cells X 27)
        have bp : Below w9.heap.size w9 (w9.alloc (.cells X 27)) := (Below.refl _ _).alloc (Nat.le_refl _) _
        have hap : OwnB (w9.alloc (.cells X 27)) W.heap.size (.slice (some ⟨g, 0, none⟩) L.length c9) L := World.ownsRow.alloc O9.out _
        have k42 := (HP.out.x.cells rp).c42
        have f42 := frozen_of_row _ w9.heap.size 42 _ _ rp
        have r11 := heap_setCell_same _ w9.heap.size 42 _ _ (.slice (some ⟨g, 0, none⟩) L.length c9) rp
        have g11 := grown_set (w9.alloc (.cells X 27)) w9.heap.size 42 (.slice (some ⟨g, 0, none⟩) L.length c9)
        have hgn : g < w9.heap.size := O9.out.lt
        have b11 : Below W.heap.size W ((w9.alloc (.cells X 27)).setCell ⟨w9.heap.size, 42, none⟩ (.slice (some ⟨g, 0, none⟩) L.length c9)) := (B9.out.trans (bp.mono B9.out.size)).grown g11 (by have := B9.out.size; have := bp.size; omega) (fun i e => by cases e; exact B9.out.size)
        have o11 : OwnB ((w9.alloc (.cells X 27)).setCell ⟨w9.heap.size, 42, none⟩ (.slice (some ⟨g, 0, none⟩) L.length c9)) W.heap.size (.slice (some ⟨g, 0, none⟩) L.length c9) L := World.ownsRow.kept hap g11 (.inr (by simp [Value.ownBlock]; omega))
        rw [HP.out.x.eq, ip_set42 _ HP.out.x.ls HP.out.x.ld] at r11
        obtain ⟨X2, hX2⟩ : ∃ X2, X2 = (ipL (datH h (some ⟨g, 0, none⟩) L.length c9)).toArray := ⟨_, rfl⟩
        have hX2' : (ipL { h with ad := some ⟨g, 0, none⟩, nd := L.length, cd := c9 }).toArray = X2 := by rw [hX2]; rfl
        rw [hX2'] at r11
        obtain ⟨w11, hw11⟩ : ∃ w11, (w9.alloc (.cells X 27)).setCell ⟨w9.heap.size, 42, none⟩ (.slice (some ⟨g, 0, none⟩) L.length c9) = w11 := ⟨_, rfl⟩
        have r11' : w11.heap[w9.heap.size]? = some (.cells X2 27 (0, 0)) := by rw [← hw11, HP.out.x.eq] at *; exact r11
        rw [hw11] at b11 o11
        have bw11 := HB.out.trans (b11.mono HB.out.size)
        have PI : InP w11 X2 (datH h (some ⟨g, 0, none⟩) L.length c9) O L := HP.out.dat bw11 hX2 (OwnB.byt (c := c9) o11 (by exact o11.lt)) HLC.out hL65 (fun e => by cases e)
        have h2s := PI.x.size
        have h20 := PI.x.x0
        have HPI := hide PI
        have B11 := hide b11
        have x11 := (HKEEP.out w11 b11).1
        have c011 : w11.cell? ⟨w.heap.size, 0, none⟩ = some (.bool v) := by rw [hv]; exact (HP.out.x.cells x11).c0
        have HVV := hide hv
        have HOL := hide o11
        clear rp bp hap r11 g11 b11 o11 bw11 PI hX2 hX2' y9 hgn hlc hv
        have HGn : Hid (g ≠ w9.heap.size) := hide (by have := O9.out.lt; omega)
        go_upto_region 6 with (fail)
        obtain ⟨G, hG⟩ : ∃ G, G = w9.heap.size := ⟨_, rfl⟩
        have HGW : Hid (W.heap.size ≤ G) := hide (by rw [hG]; exact B9.out.size)
        rw [← hG] at r11' HGn ⊢
        clear hw11 hG c0 x9 k42 f42 x11
        have hcn := hide (fun (w1 : World) => hcount.out w1 hn0 (by omega))
        have hqb : qq < 128 := by omega
        have hvv : (v = true ∧ n = 128) ∨ (v = false ∧ n = 32) := by
          rw [hnv]
          cases v
          · exact .inr ⟨rfl, rfl⟩
          · exact .inl ⟨rfl, rfl⟩
        clear hnv hcount
        cases fr
        · rcases hvv with ⟨rfl, rfl⟩ | ⟨rfl, rfl⟩
          all_goals (
          go_wp2_with fail
          refine (hcn.out w11).mono ?_
          rintro e w1 ⟨rfl, rfl⟩
          have hx16 : qq / 8 < h.db.length := by rw [HP.out.x.ld]; omega
          obtain ⟨x, hx0⟩ : ∃ x, x = h.db[qq / 8] := ⟨_, rfl⟩
          have hx : x.toNat ≤ 255 := by have := x.toNat_lt; omega
          have hd0 : w11.cell? ⟨G, 19 + qq / 8, none⟩ = some (.int .u8 (x.toNat : Int)) := by
            obtain ⟨_, _, e0, -, hc⟩ := (HPI.out.x.bytD r11' (B := w11.heap.size) (Array.getElem?_eq_some_iff.1 r11').1) (by show 0 < h.db.length; omega)
            cases e0
            rw [hc (qq / 8) hx16, hx0]
            rfl
          have hf0 : w11.frozen? ⟨G, 19 + qq / 8, none⟩ = false := frozen_of_row w11 G _ _ _ r11'
          have r12 := heap_setCell_same w11 G (19 + qq / 8) _ _ (.int .u8 (bits .xor .u8 (x.toNat : Int) (2 ^ (qq % 8) % 256))) r11'
          have g12 := grown_set w11 G (19 + qq / 8) (.int .u8 (bits .xor .u8 (x.toNat : Int) (2 ^ (qq % 8) % 256)))
          have b12 : Below W.heap.size W (w11.setCell ⟨G, 19 + qq / 8, none⟩ (.int .u8 (bits .xor .u8 (x.toNat : Int) (2 ^ (qq % 8) % 256)))) := B11.out.grown g12 B11.out.size (fun i e => by cases e; exact HGW.out)
          have o12 : OwnB (w11.setCell ⟨G, 19 + qq / 8, none⟩ (.int .u8 (bits .xor .u8 (x.toNat : Int) (2 ^ (qq % 8) % 256)))) W.heap.size (.slice (some ⟨g, 0, none⟩) L.length c9) L := World.ownsRow.kept HOL.out g12 (.inr (by simp [Value.ownBlock]; have := HGn.out; omega))
          obtain ⟨X3, hX3⟩ : ∃ X3, X3 = (ipL (movH h (h.sb) (turnL h.db qq) (some ⟨g, 0, none⟩) L.length c9)).toArray := ⟨_, rfl⟩
          have hX3' : X2.setIfInBounds (19 + qq / 8) (.int .u8 (bits .xor .u8 (x.toNat : Int) (2 ^ (qq % 8) % 256))) = X3 := by
            rw [hX3, turn_v5 x (by omega), HPI.out.x.eq, ip_setD (datH h (some ⟨g, 0, none⟩) L.length c9) HP.out.x.ls HP.out.x.ld (qq / 8) (by omega) (turnU x (qq % 8)), turn_set hx16, hx0]
            rfl
          rw [hX3'] at r12
          obtain ⟨w12, hw12⟩ : ∃ w12, w11.setCell ⟨G, 19 + qq / 8, none⟩ (.int .u8 (bits .xor .u8 (x.toNat : Int) (2 ^ (qq % 8) % 256))) = w12 := ⟨_, rfl⟩
          rw [hw12] at r12 b12 o12
          have PI3 : InP w12 X3 (movH h (h.sb) (turnL h.db qq) (some ⟨g, 0, none⟩) L.length c9) O L := HP.out.mov (HB.out.trans (b12.mono HB.out.size)) hX3 (by first | exact HP.out.x.ls | (rw [length_turnL]; exact HP.out.x.ls)) (by first | exact HP.out.x.ld | (rw [length_turnL]; exact HP.out.x.ld)) (OwnB.byt (c := c9) o12 (by exact o12.lt)) HLC.out hL65 (fun e => by cases e)
          have h3s := PI3.x.size
          have h30 := PI3.x.x0
          have KW3 := hide PI3.within
          have HPI3 := hide PI3
          have B12 := hide b12
          have HE3 : Hid (∀ g1 g2, segE (givH (movH h (h.sb) (turnL h.db qq) (some ⟨g, 0, none⟩) L.length c9) g1 g2) L = 12) := hide (fun g1 g2 => HT.out _ rfl rfl rfl rfl)
          generalize movH h (h.sb) (turnL h.db qq) (some ⟨g, 0, none⟩) L.length c9 = h3 at KW3 HPI3 HE3
          clear hx16 hx0 g12 b12 o12 PI3 hX3 hX3' r11'
          dsimp only
          go_wp2_with fail
          refine KW3.out.mono ?_
          rintro e w13 ⟨g1, g2, rfl, L1, L2, -, -, b13⟩
          have B13 : Hid (Below W.heap.size W w13) := hide (B12.out.trans (b13.mono B12.out.size))
          have K := parseG HPI3.out w13 g1 g2 L2
          have hE12 := HE3.out g1 g2
          obtain ⟨V, hV⟩ : ∃ V, V = (ipL (givH h3 g1 g2)).toArray := ⟨_, rfl⟩
          rw [← hV] at K ⊢
          have HK := hide K
          clear b13 L1 L2 hV K r12 hd0 hf0 hw12
          dsimp only
          go_wp2_with fail
          refine HK.out.mono ?_
          rintro e w14 hq
          obtain ⟨Y5, rfl, hYs, hYo, hY0⟩ := hq.val
          obtain ⟨_, e', b14, -, -⟩ := hq
          cases e'
          rw [hE12]
          have B14 : Hid (Below W.heap.size W w14) := hide (B13.out.trans (b14.mono B13.out.size))
          have B15 : Hid (Below W.heap.size W (w14.alloc (.cells Y5 31))) := hide (B14.out.alloc B14.out.size _)
          clear b14 HK hE12
          dsimp only
          go_wp2_with fail
          refine (knownS_any _).mono ?_
          rintro e w16 ⟨rfl, b16⟩
          have B16 : Hid (Below w.heap.size w w16) := hide (HB.out.trans ((B15.out.trans (b16.mono B15.out.size)).mono HB.out.size))
          clear b16
          dsimp only
          go_wp2
          go_ret
          exact ⟨rfl, B16.out⟩)
        · rcases hvv with ⟨rfl, rfl⟩ | ⟨rfl, rfl⟩
          all_goals (
          go_wp2_with fail
          refine (hcn.out w11).mono ?_
          rintro e w1 ⟨rfl, rfl⟩
          have hx16 : qq / 8 < h.sb.length := by rw [HP.out.x.ls]; omega
          obtain ⟨x, hx0⟩ : ∃ x, x = h.sb[qq / 8] := ⟨_, rfl⟩
          have hx : x.toNat ≤ 255 := by have := x.toNat_lt; omega
          have hd0 : w11.cell? ⟨G, 2 + qq / 8, none⟩ = some (.int .u8 (x.toNat : Int)) := by
            obtain ⟨_, _, e0, -, hc⟩ := (HPI.out.x.bytS r11' (B := w11.heap.size) (Array.getElem?_eq_some_iff.1 r11').1) (by show 0 < h.sb.length; omega)
            cases e0
            rw [hc (qq / 8) hx16, hx0]
            rfl
          have hf0 : w11.frozen? ⟨G, 2 + qq / 8, none⟩ = false := frozen_of_row w11 G _ _ _ r11'
          have r12 := heap_setCell_same w11 G (2 + qq / 8) _ _ (.int .u8 (bits .xor .u8 (x.toNat : Int) (2 ^ (qq % 8) % 256))) r11'
          have g12 := grown_set w11 G (2 + qq / 8) (.int .u8 (bits .xor .u8 (x.toNat : Int) (2 ^ (qq % 8) % 256)))
          have b12 : Below W.heap.size W (w11.setCell ⟨G, 2 + qq / 8, none⟩ (.int .u8 (bits .xor .u8 (x.toNat : Int) (2 ^ (qq % 8) % 256)))) := B11.out.grown g12 B11.out.size (fun i e => by cases e; exact HGW.out)
          have o12 : OwnB (w11.setCell ⟨G, 2 + qq / 8, none⟩ (.int .u8 (bits .xor .u8 (x.toNat : Int) (2 ^ (qq % 8) % 256)))) W.heap.size (.slice (some ⟨g, 0, none⟩) L.length c9) L := World.ownsRow.kept HOL.out g12 (.inr (by simp [Value.ownBlock]; have := HGn.out; omega))
          obtain ⟨X3, hX3⟩ : ∃ X3, X3 = (ipL (movH h (turnL h.sb qq) (h.db) (some ⟨g, 0, none⟩) L.length c9)).toArray := ⟨_, rfl⟩
          have hX3' : X2.setIfInBounds (2 + qq / 8) (.int .u8 (bits .xor .u8 (x.toNat : Int) (2 ^ (qq % 8) % 256))) = X3 := by
            rw [hX3, turn_v5 x (by omega), HPI.out.x.eq, ip_setS (datH h (some ⟨g, 0, none⟩) L.length c9) HP.out.x.ls (qq / 8) (by omega) (turnU x (qq % 8)), turn_set hx16, hx0]
            rfl
          rw [hX3'] at r12
          obtain ⟨w12, hw12⟩ : ∃ w12, w11.setCell ⟨G, 2 + qq / 8, none⟩ (.int .u8 (bits .xor .u8 (x.toNat : Int) (2 ^ (qq % 8) % 256))) = w12 := ⟨_, rfl⟩
          rw [hw12] at r12 b12 o12
          have PI3 : InP w12 X3 (movH h (turnL h.sb qq) (h.db) (some ⟨g, 0, none⟩) L.length c9) O L := HP.out.mov (HB.out.trans (b12.mono HB.out.size)) hX3 (by first | exact HP.out.x.ls | (rw [length_turnL]; exact HP.out.x.ls)) (by first | exact HP.out.x.ld | (rw [length_turnL]; exact HP.out.x.ld)) (OwnB.byt (c := c9) o12 (by exact o12.lt)) HLC.out hL65 (fun e => by cases e)
          have h3s := PI3.x.size
          have h30 := PI3.x.x0
          have KW3 := hide PI3.within
          have HPI3 := hide PI3
          have B12 := hide b12
          have HE3 : Hid (∀ g1 g2, segE (givH (movH h (turnL h.sb qq) (h.db) (some ⟨g, 0, none⟩) L.length c9) g1 g2) L = 12) := hide (fun g1 g2 => HT.out _ rfl rfl rfl rfl)
          generalize movH h (turnL h.sb qq) (h.db) (some ⟨g, 0, none⟩) L.length c9 = h3 at KW3 HPI3 HE3
          clear hx16 hx0 g12 b12 o12 PI3 hX3 hX3' r11'
          dsimp only
          go_wp2_with fail
          refine KW3.out.mono ?_
          rintro e w13 ⟨g1, g2, rfl, L1, L2, -, -, b13⟩
          have B13 : Hid (Below W.heap.size W w13) := hide (B12.out.trans (b13.mono B12.out.size))
          have K := parseG HPI3.out w13 g1 g2 L2
          have hE12 := HE3.out g1 g2
          obtain ⟨V, hV⟩ : ∃ V, V = (ipL (givH h3 g1 g2)).toArray := ⟨_, rfl⟩
          rw [← hV] at K ⊢
          have HK := hide K
          clear b13 L1 L2 hV K r12 hd0 hf0 hw12
          dsimp only
          go_wp2_with fail
          refine HK.out.mono ?_
          rintro e w14 hq
          obtain ⟨Y5, rfl, hYs, hYo, hY0⟩ := hq.val
          obtain ⟨_, e', b14, -, -⟩ := hq
          cases e'
          rw [hE12]
          have B14 : Hid (Below W.heap.size W w14) := hide (B13.out.trans (b14.mono B13.out.size))
          have B15 : Hid (Below W.heap.size W (w14.alloc (.cells Y5 31))) := hide (B14.out.alloc B14.out.size _)
          clear b14 HK hE12
          dsimp only
          go_wp2_with fail
          refine (knownS_any _).mono ?_
          rintro e w16 ⟨rfl, b16⟩
          have B16 : Hid (Below w.heap.size w w16) := hide (HB.out.trans ((B15.out.trans (b16.mono B15.out.size)).mono HB.out.size))
          clear b16
          dsimp only
          go_wp2
          go_ret
          exact ⟨rfl, B16.out⟩)
    · have hEb : (E != 0) = true := by simpa using hE0
      go_wp2_with fail
      refine (knownS_any w9).mono ?_
      rintro e w10 ⟨rfl, b10⟩
      have B10 : Hid (Below w.heap.size w w10) := hide (HB.out.trans ((B9.out.trans (b10.mono B9.out.size)).mono HB.out.size))
      clear b10
      dsimp only
      go_wp2
      go_ret
      exact ⟨rfl, B10.out⟩)
end Go.Proofs.Ythfdendkjifhkaa
