/-
  The walk of tuple.Make: a packet of any tuple.
-/
import Derived.Test.YtcagdcjikbkapaaNa
import Derived.Test.YtcagdcjikbkapaaJb
import Derived.Test.YtcagdcjikbkapaaKs
namespace Go.Proofs.Ytcagdcjikbkapaa
open Go.RowKit
attribute [local go_sem ↓] exec_span exec_put exec_build heap_alloc_new heap_old heap_alloc_drew
attribute [local go_sem] spanQ_ptr spanC_some heap_of_drew heap_of_drewN rs_arr rs_ad rs_ip rs_rip rs_seg rs_rseg rs_tup rs_seen putAt_ptr putOk_ptr oldOk_some World.setRow_alloc_new setRow_drew
set_option maxRecDepth 100000
set_option linter.unusedVariables false
set_option linter.unusedSimpArgs false

/-- the packet and the segment that are made of a tuple. -/
def makH (t : Tup) (ad : Option Addr) (n c : Nat) : Ip := ⟨t.sv, t.sv, t.sb, t.dv, t.db, t.p, 64, 0, 0, false, 0, none, 0, 0, ad, n, c⟩
def makS (t : Tup) (f : Int) (ad : Option Addr) (n c : Nat) : Sg := ⟨t.p, t.s, t.d, 0, 0, f, 0, 0, false, none, 0, 0, ad, n, c⟩
theorem built_mhA (v u : Bool) (p : Int) (b0 b1 b2 b3 b4 b5 b6 b7 b8 b9 b10 b11 b12 b13 b14 b15 c0 c1 c2 c3 c4 c5 c6 c7 c8 c9 c10 c11 c12 c13 c14 c15 : UInt8) : Try.prog.built 36 [(0, .bool v), (1, .agg (adL v [b0, b1, b2, b3, b4, b5, b6, b7, b8, b9, b10, b11, b12, b13, b14, b15]).toArray), (2, .agg (adL u [c0, c1, c2, c3, c4, c5, c6, c7, c8, c9, c10, c11, c12, c13, c14, c15]).toArray), (3, .int .i64 p), (4, .int .i64 64)] = some (ipL (makH ⟨v, [b0, b1, b2, b3, b4, b5, b6, b7, b8, b9, b10, b11, b12, b13, b14, b15], u, [c0, c1, c2, c3, c4, c5, c6, c7, c8, c9, c10, c11, c12, c13, c14, c15], p, 0, 0⟩ none 0 0)).toArray := by kernel_rfl
theorem built_mh (t : Tup) (ls : t.sb.length = 16) (ld : t.db.length = 16) : Try.prog.built 36 [(0, .bool t.sv), (1, .agg (adL t.sv t.sb).toArray), (2, .agg (adL t.dv t.db).toArray), (3, .int .i64 t.p), (4, .int .i64 64)] = some (ipL (makH t none 0 0)).toArray := by
  obtain ⟨v, sb, u, db, p, s, d⟩ := t
  match sb, ls, db, ld with
  | [_, _, _, _, _, _, _, _, _, _, _, _, _, _, _, _], _, [_, _, _, _, _, _, _, _, _, _, _, _, _, _, _, _], _ => exact built_mhA _ _ _ _ _ _ _ _ _ _ _ _ _ _ _ _ _ _ _ _ _ _ _ _ _ _ _ _ _ _ _ _ _ _ _
theorem built_ms (t : Tup) (f : Int) (ad : Option Addr) (n c : Nat) : Try.prog.built 31 [(0, .int .i64 t.p), (1, .int .i64 t.s), (2, .int .i64 t.d), (5, .int .i64 f), (10, .slice ad n c)] = some (sgL (makS t f ad n c)).toArray := by kernel_rfl
/-- the segment's bytes; what is wrong; the packet. -/
def mkL (t : Tup) (f : Int) (D : List UInt8) : List UInt8 := putB (makH t none 0 0) (makS t f none D.length 0) [] D
def mkP (t : Tup) (f : Int) (D : List UInt8) : Int := putE (makH t none 0 0) (makS t f none D.length 0)
def mkE (t : Tup) (f : Int) (D : List UInt8) : Int := if rightT t = false then 1 else if mkP t f D ≠ 0 then mkP t f D else pktE (makH t none (mkL t f D).length 0)
def mkB (t : Tup) (f : Int) (D : List UInt8) : List UInt8 := if rightT t = false then [] else if mkP t f D ≠ 0 then [] else pktB (makH t none (mkL t f D).length 0) [] (mkL t f D)
def MakeS (w : World) (t : Tup) (f : Int) (D : List UInt8) (e : Ending) (w' : World) : Prop := ∃ A c, e = .returned (.tuple #[.slice A (mkB t f D).length c, .int .i64 (mkE t f D)]) ∧ OwnB w' w.heap.size (.slice A (mkB t f D).length c) (mkB t f D) ∧ Below w.heap.size w w'

set_option maxHeartbeats 4000000 in
theorem make_any (w : World) (X : Array Value) (t : Tup) (x : TuV X t) (f : Int) (A : Option Addr) (c : Nat) (D : List UInt8) (hD : Byt w w.heap.size A D) (hc : D.length ≤ c) (hn : D.length ≤ 140737488355328) (hnil : A = none → c = 0) :
    Calls Try.prog 26 #[.agg X, .int .i64 f, .slice A D.length c] w fun e w' => MakeS w t f D e w' := by
  have hxs := x.size
  have hx0 := x.x0
  have ls := x.ls
  have ld := x.ld
  obtain ⟨W, hW, r1, hz, hbW⟩ := one_block w (.cells X 52)
  have KR := hide (righttuple_any W X t x)
  have hk := hide (fun (w1 : World) (b : Below W.heap.size W w1) => ((b.block w.heap.size (by omega)).trans r1 : w1.heap[w.heap.size]? = some (.cells X 52 (0, 0))))
  have HB := hide hbW
  have HZ := hide hz
  have HX := hide x
  have HD := hide hD
  by_cases hr : rightT t = true
  · rw [hr] at KR
    have e1 : mkE t f D = if mkP t f D ≠ 0 then mkP t f D else pktE (makH t none (mkL t f D).length 0) := by unfold mkE; rw [if_neg (by rw [hr]; decide)]
    have e2 : mkB t f D = if mkP t f D ≠ 0 then [] else pktB (makH t none (mkL t f D).length 0) [] (mkL t f D) := by unfold mkB; rw [if_neg (by rw [hr]; decide)]
    have HE1 := hide e1
    have HE2 := hide e2
    clear hr e1 e2 hbW hz x hD
    go_enter Try.func26, Try.ntmps26
    go_wp2_with fail
    refine KR.out.mono ?_
    rintro e w1 ⟨rfl, b1⟩
    have B1 : Hid (Below W.heap.size W w1) := hide b1
    have q1 := hk.out w1 b1
    have x1 := HX.out.src
    have x2 := HX.out.dst
    obtain ⟨k0, k17, k34, k35, k36⟩ := HX.out.cells q1
    have bm := built_mh t ls ld
    have bs := built_ms t f A D.length c
    obtain ⟨S, hS⟩ : ∃ S, S = (adL t.sv t.sb).toArray := ⟨_, rfl⟩
    obtain ⟨T, hT⟩ : ∃ S, S = (adL t.dv t.db).toArray := ⟨_, rfl⟩
    rw [← hS] at x1 bm
    rw [← hT] at x2 bm
    obtain ⟨XH, hXH⟩ : ∃ XH, XH = (ipL (makH t none 0 0)).toArray := ⟨_, rfl⟩
    obtain ⟨XS, hXS⟩ : ∃ XS, XS = (sgL (makS t f A D.length c)).toArray := ⟨_, rfl⟩
    rw [← hXH] at bm
    rw [← hXS] at bs
    have VH : IpV XH (makH t none 0 0) := ⟨hXH, ls, ld⟩
    have VS : SgV XS (makS t f A D.length c) := ⟨hXS, Nat.succ_pos _, Nat.succ_pos _⟩
    have hs1 := VH.size
    have hs2 := VH.one
    have hs3 := VH.x0
    have ss1 := VS.size
    have ss2 := VS.one
    have ss3 := VS.x0
    have hg1 : w.heap.size < w1.heap.size := (Array.getElem?_eq_some_iff.1 q1).1
    have b2 : Below w1.heap.size w1 (w1.alloc (.cells XH 36)) := (Below.refl _ _).alloc (Nat.le_refl _) _
    have q2 := (b2.block _ hg1).trans q1
    have rH := heap_alloc_new w1 (.cells XH 36)
    obtain ⟨j0, j17, j34, j35, j36⟩ := HX.out.cells q2
    have B2 : Hid (Below W.heap.size W (w1.alloc (.cells XH 36))) := hide (b1.trans (b2.mono b1.size))
    have hG1 : (w1.alloc (.cells XH 36)).heap.size = w1.heap.size + 1 := by simp
    clear q2 b2 b1 hS hT hXS hXH hg1
    dsimp only
    go_upto_region 4 with (fail)
    obtain ⟨G, hG⟩ : ∃ G, G = w1.heap.size := ⟨_, rfl⟩
    have HGW : Hid (W.heap.size ≤ G) := hide (by rw [hG]; exact B1.out.size)
    rw [← hG] at rH hG1 ⊢
    generalize w1.alloc (.cells XH 36) = w2 at rH B2 j0 j17 j34 j35 j36 hG1 ⊢
    have b3 : Below w2.heap.size w2 (w2.alloc (.cells XS 31)) := (Below.refl _ _).alloc (Nat.le_refl _) _
    have rS := heap_alloc_new w2 (.cells XS 31)
    have rH3 := (b3.block G (by omega)).trans rH
    have B3 : Hid (Below W.heap.size W (w2.alloc (.cells XS 31))) := hide (B2.out.trans (b3.mono B2.out.size))
    clear b3 rH hG k0 k17 k34 k35 k36 hG1
    go_upto_region 5 with (fail)
    generalize w2.alloc (.cells XS 31) = w3 at rH3 rS B3 ⊢
    have KP := segPut_any w3 XH XS (makH t none 0 0) (makS t f A D.length c) VH VS [] D (Byt.nil _ _ _) rfl (Nat.le_refl _) (fun _ => rfl) ((HD.out.below (HB.out.trans (B3.out.mono HB.out.size))).more (Nat.le_trans HB.out.size B3.out.size)) rfl hc hnil (Nat.zero_le _) hn
    have hP1 : putE (makH t none 0 0) (makS t f A D.length c) = mkP t f D := rfl
    have hP2 : putB (makH t none 0 0) (makS t f A D.length c) [] D = mkL t f D := rfl
    rw [hP1, hP2] at KP
    obtain ⟨E, hE⟩ : ∃ E, E = mkP t f D := ⟨_, rfl⟩
    obtain ⟨L, hL⟩ : ∃ L, L = mkL t f D := ⟨_, rfl⟩
    rw [← hE, ← hL] at KP HE1 HE2
    have HKP := hide KP
    have HL : Hid (L.length ≤ 65535) := hide (by
      rw [hL]
      show (putB (makH t none 0 0) (makS t f A D.length c) [] D).length ≤ 65535
      unfold putB
      by_cases h0 : putE (makH t none 0 0) (makS t f A D.length c) = 0
      · obtain ⟨-, -, p3, -, p5⟩ := putE_zero h0
        rw [if_pos h0, len_segB p3 rfl rfl]
        exact p5
      · rw [if_neg h0]; exact Nat.zero_le _)
    have HRH := hide rH3
    have HVH := hide VH
    clear KP hP1 hP2 hE hL VS
    go_wp2_with fail
    refine HKP.out.mono ?_
    rintro e w4 ⟨A4, c4, rfl, o4, b4⟩
    have B4 : Hid (Below W.heap.size W w4) := hide (B3.out.trans (b4.mono B3.out.size))
    by_cases hE0 : E = 0
    · subst hE0
      have r4 := (b4.block G (Array.getElem?_eq_some_iff.1 HRH.out).1).trans HRH.out
      obtain ⟨A', c', hv', hlc4, hby4, hnil4, hbl4⟩ := o4.shape
      cases hv'
      have g42 := (HVH.out.cells r4).c42
      have f42 := frozen_of_row w4 G 42 _ _ r4
      have r5 := heap_setCell_same w4 G 42 _ _ (.slice A4 L.length c4) r4
      rw [HVH.out.eq, ip_set42 _ ls ld] at r5
      obtain ⟨X5, hX5⟩ : ∃ X5, X5 = (ipL (makH t A4 L.length c4)).toArray := ⟨_, rfl⟩
      have r5' : (w4.setCell ⟨G, 42, none⟩ (.slice A4 L.length c4)).heap[G]? = some (.cells X5 36 (0, 0)) := by rw [hX5]; exact r5
      have hg5 := grown_set w4 G 42 (.slice A4 L.length c4)
      have hb5 : Below W.heap.size W (w4.setCell ⟨G, 42, none⟩ (.slice A4 L.length c4)) := B4.out.grown hg5 B4.out.size (fun i e => by cases e; exact HGW.out)
      have hG3 := (Array.getElem?_eq_some_iff.1 HRH.out).1
      have hby5 : Byt (w4.setCell ⟨G, 42, none⟩ (.slice A4 L.length c4)) w4.heap.size A4 L := hby4.other (Nat.le_refl _) hg5 (fun a e => by have := (hbl4 a e).1; omega)
      obtain ⟨w5, hw5⟩ : ∃ w5, w4.setCell ⟨G, 42, none⟩ (.slice A4 L.length c4) = w5 := ⟨_, rfl⟩
      have hn5 : w4.heap.size ≤ w5.heap.size := by rw [← hw5]; simp
      rw [hw5] at r5' hb5 hby5
      have V5 : IpV X5 (makH t A4 L.length c4) := ⟨hX5, ls, ld⟩
      have KH := putH_any w5 X5 (makH t A4 L.length c4) V5 [] L (Byt.nil _ _ _) rfl (hby5.more hn5) rfl (Nat.zero_le _) (by have := HL.out; show L.length ≤ _; omega)
      have hK1 : pktE (makH t A4 L.length c4) = pktE (makH t none L.length 0) := rfl
      have hK2 : pktB (makH t A4 L.length c4) [] L = pktB (makH t none L.length 0) [] L := rfl
      have e3 : mkE t f D = pktE (makH t none L.length 0) := by rw [HE1.out, if_neg (by simp)]
      have e4 : mkB t f D = pktB (makH t none L.length 0) [] L := by rw [HE2.out, if_neg (by simp)]
      rw [hK1, hK2, ← e3, ← e4] at KH
      have HKH := hide KH
      have HB5 := hide hb5
      have h5s := V5.size
      have h50 := V5.x0
      clear KH hK1 hK2 e3 e4 hX5 V5 hby5 hn5 hb5 hg5 hG3 r5 hby4 o4 hbl4 hlc4 r4 b4 HE1 HE2
      dsimp only
      go_wp2_with fail
      refine HKH.out.mono ?_
      rintro e w6 ⟨A6, c6, rfl, o6, b6⟩
      have B6 : Hid (Below w.heap.size w w6) := hide (HB.out.trans ((HB5.out.trans (b6.mono HB5.out.size)).mono HB.out.size))
      have O6 := hide (own_low o6 (Nat.le_trans HB.out.size HB5.out.size))
      clear o6 b6 hw5 g42 f42 r5'
      dsimp only
      go_wp2
      first | exact ⟨A6, c6, rfl, O6.out, B6.out⟩ | (go_ret2; exact ⟨A6, c6, rfl, O6.out, B6.out⟩)
    · have hEb : (E != 0) = true := by simpa using hE0
      have e3 : Hid (mkE t f D = E) := hide (by rw [HE1.out, if_pos hE0])
      have e4 : Hid (mkB t f D = []) := hide (by rw [HE2.out, if_pos hE0])
      have B6 : Hid (Below w.heap.size w w4) := hide (HB.out.trans (B4.out.mono HB.out.size))
      clear o4 b4 hE0
      dsimp only
      go_wp2
      first | exact ⟨none, 0, by rw [e3.out, e4.out]; rfl, by rw [e4.out]; exact OwnB.nil _ _, B6.out⟩ | (go_ret2; exact ⟨none, 0, by rw [e3.out, e4.out]; rfl, by rw [e4.out]; exact OwnB.nil _ _, B6.out⟩)
  · have hrf : rightT t = false := by simpa using hr
    rw [hrf] at KR
    have e3 : Hid (mkE t f D = 1) := hide (by unfold mkE; rw [if_pos hrf])
    have e4 : Hid (mkB t f D = []) := hide (by unfold mkB; rw [if_pos hrf])
    clear hr hrf hbW hz x hD
    go_enter Try.func26, Try.ntmps26
    go_wp2_with fail
    refine KR.out.mono ?_
    rintro e w1 ⟨rfl, b1⟩
    have B1 : Hid (Below w.heap.size w w1) := hide (HB.out.trans (b1.mono HB.out.size))
    clear b1
    dsimp only
    go_wp2
    first | exact ⟨none, 0, by rw [e3.out, e4.out]; rfl, by rw [e4.out]; exact OwnB.nil _ _, B1.out⟩ | (go_ret2; exact ⟨none, 0, by rw [e3.out, e4.out]; rfl, by rw [e4.out]; exact OwnB.nil _ _, B1.out⟩)
end Go.Proofs.Ytcagdcjikbkapaa
