/-
  The walks of segment.Put: of another protocol; of a datagram with a sum.
-/
import Derived.Test.YtdmlgogjipcggaaKd
import Derived.Test.YtdmlgogjipcggaaKg
namespace Go.Proofs.Ytdmlgogjipcggaa
open Go.RowKit
attribute [local go_sem ↓] exec_span exec_put exec_build heap_alloc_new heap_old
attribute [local go_sem] spanQ_ptr spanC_some heap_of_drew heap_of_drewN rs_arr rs_ad rs_ip rs_rip rs_seg putAt_ptr putOk_ptr oldOk_some World.setRow_alloc_new
set_option maxRecDepth 100000
set_option linter.unusedVariables false
set_option linter.unusedSimpArgs false

set_option maxHeartbeats 1600000 in
theorem segPutP_any (w : World) (X Y : Array Value) (h : Ip) (s : Sg) (x : IpV X h) (y : SgV Y s) (h6 : ¬ h.p = 6) (h17 : ¬ h.p = 17) :
    Calls Try.prog 40 #[.agg X, .agg Y] w fun e w' => e = .returned (.tuple #[.slice none 0 0, .int .i64 14]) ∧ Below w.heap.size w w' := by
  obtain ⟨W, hW⟩ : ∃ W, (w.alloc (.cells X 83)).alloc (.cells Y 88) = W := ⟨_, rfl⟩
  obtain ⟨r1, r2, hz, hb⟩ := two_packs w X _ _ _ W hW
  have c35 := (x.cells r1).c35
  obtain ⟨d0, d1, d2, d3, d4, d5, d6, d7, d8, d9, d10⟩ := y.cells r2
  have HB := hide hb
  have HW := hide hW
  obtain ⟨p, hp⟩ : ∃ p, p = h.p := ⟨_, rfl⟩
  rw [← hp] at c35 h6 h17
  have e6 : (p != 6) = true := by simpa using h6
  have e17 : (p != 17) = true := by simpa using h17
  clear hz hb hW r1 r2 x y hp h6 h17
  go_enter Try.func40, Try.ntmps40
  go_upto_region 1 with (fail)
  change Code.wp _ _ _ _ ((w.alloc (.cells X 83)).alloc (.cells Y 88))
  rw [HW.out]
  go_wp2
  go_ret2
  exact ⟨rfl, HB.out⟩

/-- a byte of one's own row is written over. -/
theorem putByte {w : World} {base g cap : Nat} {l : List UInt8} (h : OwnB w base (.slice (some ⟨g, 0, none⟩) l.length cap) l) (j : Nat) (hj : j < l.length) (x : UInt8) :
    OwnB (w.setCell ⟨g, j, none⟩ (.int .u8 (x.toNat : Int))) base (.slice (some ⟨g, 0, none⟩) l.length cap) (l.set j x) := by
  have := World.ownsRow.stored h j (.int .u8 (x.toNat : Int))
  unfold OwnB
  rw [List.length_set, List.map_set]
  exact this.1
/-- a datagram's bytes ahead of its sum, and with it. -/
def udp0 (an bn : Nat) (D : List UInt8) : List UInt8 := fldB [(2, an), (2, bn), (2, 8 + D.length), (2, 0)] ++ D
def udpB (h : Ip) (an bn : Nat) (D : List UInt8) : List UInt8 := ((udp0 an bn D).set 6 (b8 (((sumV h (udp0 an bn D) 6 : Nat) : Int) / 256))).set 7 (b8 ((sumV h (udp0 an bn D) 6 : Nat) : Int))

set_option maxHeartbeats 1600000 in
theorem segPutU_any (w : World) (X Y : Array Value) (h : Ip) (s : Sg) (x : IpV X h) (y : SgV Y s) (hp : h.p = 17) (sp : s.p = 17) (an bn : Nat) (ha : s.a = (an : Int)) (hb : s.b = (bn : Int)) (hr : rightS s = true) (hns : s.ns = false) (D : List UInt8) (hD : Byt w w.heap.size s.ad D) (hDl : D.length = s.nd) (hDn : s.nd ≤ 65527) (hDc : s.nd ≤ s.cd) (hnil : s.ad = none → s.cd = 0) (ho : s.ao = none ∧ s.no = 0 ∧ s.co = 0) :
    Calls Try.prog 40 #[.agg X, .agg Y] w fun e w' => ∃ v, e = .returned (.tuple #[v, .int .i64 0]) ∧ OwnB w' w.heap.size v (udpB h an bn D) ∧ Below w.heap.size w w' := by
  obtain ⟨W, hW⟩ : ∃ W, (w.alloc (.cells X 83)).alloc (.cells Y 88) = W := ⟨_, rfl⟩
  obtain ⟨r1, r2, hz, hbW⟩ := two_packs w X _ _ _ W hW
  have ab : an ≤ 65535 ∧ bn ≤ 65535 := by
    unfold rightS upL at hr
    rw [ha, hb] at hr
    simp at hr
    omega
  have hxs := x.size
  have hxr := x.x0
  have hys := y.size
  have hyr := y.x0
  have KR := hide (fun W1 => rightS_any W1 Y s y (by omega))
  rw [hr] at KR
  have KS := hide (fun W1 => sizeS_any W1 Y s y (by omega) (by omega))
  rw [sp, if_neg (by decide)] at KS
  have KH := hide (fun W1 => headU_any W1 Y s y sp (by omega) hDn an bn ha ab.1 hb ab.2)
  have hkeep := hide (fun (W1 : World) (b : Below W.heap.size W W1) => (⟨(b.block w.heap.size (by omega)).trans r1, (b.block (w.heap.size + 1) (by omega)).trans r2⟩ : W1.heap[w.heap.size]? = some (.cells X 83 (0, 0)) ∧ W1.heap[w.heap.size + 1]? = some (.cells Y 88 (0, 0))))
  have HXC := hide (fun (W1 : World) (r : W1.heap[w.heap.size]? = some (.cells X 83 (0, 0))) => x.cells r)
  have HYC := hide (fun (W1 : World) (r : W1.heap[w.heap.size + 1]? = some (.cells Y 88 (0, 0))) => y.cells r)
  have c35 := (x.cells r1).c35
  rw [hp] at c35
  obtain ⟨d0, d1, d2, d3, d4, d5, d6, d7, d8, d9, d10⟩ := y.cells r2
  rw [sp] at d0
  rw [hns] at d8
  have HB := hide hbW
  have HZ := hide hz
  have HW := hide hW
  have HX := hide x
  have HY := hide y
  have HD := hide hD
  have HDL := hide hDl
  clear hz hbW hW hD x y hDl
  go_enter Try.func40, Try.ntmps40
  go_upto_region 1 with (fail)
  change Code.wp _ _ _ _ ((w.alloc (.cells X 83)).alloc (.cells Y 88))
  rw [HW.out]
  go_wp2_with fail
  refine (KR.out W).mono ?_
  rintro e w1 ⟨rfl, b1⟩
  have B1 : Hid (Below W.heap.size W w1) := hide b1
  obtain ⟨t1, u1⟩ := hkeep.out w1 b1
  have cX := HXC.out w1 t1
  have cY := HYC.out w1 u1
  have c8 := cY.c8
  rw [hns] at c8
  have hsz : 8 + (s.nd : Int) ≤ 65535 := by omega
  have hO := ho
  have HO := hide ho
  clear b1 cX cY d0 d1 d2 d3 d4 d5 d6 d7 d8 d9 d10 c35 hO ho r1 r2
  dsimp only
  go_wp2_with fail
  refine (KS.out w1).mono ?_
  rintro e w2 ⟨rfl, b2⟩
  have B2 : Hid (Below W.heap.size W w2) := hide (B1.out.trans (b2.mono B1.out.size))
  obtain ⟨t2, u2⟩ := hkeep.out w2 B2.out
  clear b2 c8 t1 u1
  dsimp only
  go_wp2_with fail
  refine (KH.out w2).mono ?_
  rintro e w3 ⟨v3, rfl, o3, b3⟩
  have B3 : Hid (Below W.heap.size W w3) := hide (B2.out.trans (b3.mono B2.out.size))
  have O3 : Hid (OwnB w3 W.heap.size v3 (fldB [(2, an), (2, bn), (2, 8 + s.nd), (2, 0)])) := hide (own_low o3 B2.out.size)
  obtain ⟨t3, u3⟩ := hkeep.out w3 B3.out
  have c9 := (HYC.out w3 u3).c9
  rw [HO.out.1, HO.out.2.1, HO.out.2.2] at c9
  have hl8 : Hid ((fldB [(2, an), (2, bn), (2, 8 + s.nd), (2, 0)]).length = 8) := hide (by simp [fldB, length_numBytes])
  clear b3 o3 t2 u2
  dsimp only
  go_wp2_with (at_builtin; refine wpList_app_bytes rfl (.tmp 40) (.tmp 42) rfl W.heap.size v3 _ [] 0 0 none rfl rfl (by exact O3.out) (Byt.nil _ _ _) (fun _ => rfl) (by have := hl8.out; simp; omega) B3.out.size ?_)
  intro v4 w4 o4 g4 a4
  have B4 : Hid (Below W.heap.size W w4) := hide (B3.out.grown g4 B3.out.size (fun k hk => (World.ownsRow.lt O3.out k hk).1))
  have O4 : Hid (OwnB w4 W.heap.size v4 (fldB [(2, an), (2, bn), (2, 8 + s.nd), (2, 0)])) := hide (by simpa using o4)
  obtain ⟨t4, u4⟩ := hkeep.out w4 B4.out
  have c10 := (HYC.out w4 u4).c10
  rw [← HDL.out] at c10
  have HDb : Hid (Byt w4 w.heap.size s.ad D) := hide (HD.out.below (HB.out.trans (B4.out.mono HB.out.size)))
  clear o4 g4 a4 t3 u3 c9
  go_wp2_with (at_builtin; refine wpList_app_bytes rfl (.tmp 44) (.tmp 46) rfl W.heap.size v4 _ D w.heap.size s.cd s.ad rfl rfl (by exact O4.out) (by exact HDb.out) hnil (by have := hl8.out; have := HDL.out; omega) B4.out.size ?_)
  intro v5 w5 o5 g5 a5
  have B5 : Hid (Below W.heap.size W w5) := hide (B4.out.grown g5 B4.out.size (fun k hk => (World.ownsRow.lt O4.out k hk).1))
  obtain ⟨L, hL⟩ : ∃ L, L = udp0 an bn D := ⟨_, rfl⟩
  have hown : OwnB w5 W.heap.size v5 L := by
    rw [hL]; unfold udp0; rw [HDL.out]; exact o5
  have hLn : L.length = 8 + D.length := by
    rw [hL]; unfold udp0; rw [List.length_append, HDL.out, hl8.out]
  have HL := hide hL
  obtain ⟨t5, u5⟩ := hkeep.out w5 B5.out
  have d8 := (HYC.out w5 u5).c8
  rw [hns] at d8
  have d0 := (HYC.out w5 u5).c0
  rw [sp] at d0
  clear o5 g5 a5 t4 u4 c10 hL
  obtain ⟨g, cap, hv5, hbg⟩ : ∃ g cap, v5 = .slice (some ⟨g, 0, none⟩) L.length cap ∧ W.heap.size ≤ g := by
    rcases hown.2 with ⟨_, h0⟩ | ⟨g, cap, cur, e, hbg, -⟩
    · omega
    · exact ⟨g, cap, e, hbg⟩
  subst hv5
  obtain ⟨A', c', hv', hlc, hby, -, -⟩ := hown.shape
  cases hv'
  have hL65 : L.length ≤ 65535 := by have := HDL.out; omega
  obtain ⟨N, hN⟩ : ∃ N, N = sumV h L 6 := ⟨_, rfl⟩
  have KU : Hid (∀ W1 : World, Below w5.heap.size w5 W1 → Calls Try.prog 66 #[.agg X, .slice (some ⟨g, 0, none⟩) L.length cap] W1 fun e w' => e = .returned (.int .u16 (N : Int)) ∧ Below W1.heap.size W1 w') := hide (fun W1 hb1 => by
    have k := sumS_any W1 X h HX.out (some ⟨g, 0, none⟩) cap L ((hby.below hb1).more hb1.size) hlc (by omega) (by rw [hp, if_neg (by decide)]; omega)
    rw [hp, if_neg (by decide), ← hN] at k
    exact k)
  have KA6 := hide (fun (W1 : World) => sumAt_any W1 17)
  rw [if_neg (by decide)] at KA6
  have hk5 := hide (fun (W1 : World) (b : Below w5.heap.size w5 W1) => (⟨(hkeep.out W1 (B5.out.trans (b.mono B5.out.size))).1, (World.cell?_of_block (w := w5) (b.block (w.heap.size + 1) (Array.getElem?_eq_some_iff.1 u5).1)).trans d0⟩ : W1.heap[w.heap.size]? = some (.cells X 83 (0, 0)) ∧ W1.cell? ⟨w.heap.size + 1, 0, none⟩ = some (.int .i64 17)))
  have t5d := (hk5.out w5.drew (Below.refl _ _).drew).1
  have d0d := (hk5.out w5.drew (Below.refl _ _).drew).2
  have HOWN := hide hown
  have HLN := hide hLn
  have HL65 := hide hL65
  have HBG := hide hbg
  have HNN := hide hN
  clear hown hby hlc hN hbg hLn hL65
  go_wp2_with fail
  go_region_held3 (fun w' => w'.heap[w.heap.size]? = some (.cells X 83 (0, 0)) ∧ w'.cell? ⟨w.heap.size + 1, 0, none⟩ = some (.int .i64 17))
    (first | exact ⟨t5d, d0d⟩ | exact ⟨t6, d6⟩ | fail)
    (first
      | (go_at_call 66; (with_reducible refine (KU.out w5.drew (Below.refl _ _).drew).mono ?_); rintro e w6 ⟨rfl, b6⟩; have B6 : Hid (Below w5.heap.size w5 w6) := hide (below_undrew' b6); obtain ⟨t6, d6⟩ := hk5.out w6 B6.out; clear b6)
      | (go_at_call 67; (with_reducible refine (KA6.out w6).mono ?_); rintro e w7 ⟨rfl, rfl⟩)
      | fail)
  all_goals (
    have hO6 : OwnB w6 W.heap.size (.slice (some ⟨g, 0, none⟩) L.length cap) L := World.ownsRow.kept HOWN.out (below_row B6.out none) (Classical.em _)
    have hL8 : 8 ≤ L.length := by have := HLN.out; omega
    obtain ⟨x6, hx6⟩ : ∃ u, u = b8 ((N : Int) / 256) := ⟨_, rfl⟩
    obtain ⟨x7, hx7⟩ : ∃ u, u = b8 (N : Int) := ⟨_, rfl⟩
    have e6 := b8_eq ((N : Int) / 256)
    have e7 := b8_eq (N : Int)
    rw [← hx6] at e6
    rw [← hx7] at e7
    have HX6 := hide hx6
    have HX7 := hide hx7
    have f6 := hO6.frozenAt 6
    have hc6 : ∃ u, w6.cell? ⟨g, 6, none⟩ = some u := ⟨_, (hO6.cellAt 6 (by omega)).trans (List.getElem?_eq_getElem (by simp; omega))⟩
    obtain ⟨u6, c6⟩ := hc6
    have ho2 := putByte hO6 6 (by omega) x6
    have g2 := (World.ownsRow.stored hO6 6 (.int .u8 (x6.toNat : Int))).2
    obtain ⟨w8, hw8⟩ : ∃ w', w6.setCell ⟨g, 6, none⟩ (.int .u8 (x6.toNat : Int)) = w' := ⟨_, rfl⟩
    have ho2' : OwnB w8 W.heap.size (.slice (some ⟨g, 0, none⟩) (L.set 6 x6).length cap) (L.set 6 x6) := by rw [← hw8, List.length_set]; exact ho2
    rw [hw8] at g2
    have f7 := ho2'.frozenAt 7
    have hc7 : ∃ u, w8.cell? ⟨g, 7, none⟩ = some u := ⟨_, (ho2'.cellAt 7 (by simp; omega)).trans (List.getElem?_eq_getElem (by simp; omega))⟩
    obtain ⟨u7, c7⟩ := hc7
    have ho3 := putByte ho2' 7 (by simp; omega) x7
    have g3 := (World.ownsRow.stored ho2' 7 (.int .u8 (x7.toNat : Int))).2
    obtain ⟨w9, hw9⟩ : ∃ w', w8.setCell ⟨g, 7, none⟩ (.int .u8 (x7.toNat : Int)) = w' := ⟨_, rfl⟩
    have ho3' : OwnB w9 W.heap.size (.slice (some ⟨g, 0, none⟩) L.length cap) ((L.set 6 x6).set 7 x7) := by rw [← hw9]; rw [List.length_set] at ho3; exact ho3
    rw [hw9] at g3
    have C6 : Below W.heap.size W w6 := B5.out.trans (B6.out.mono B5.out.size)
    have C8 : Below W.heap.size W w8 := C6.grown g2 C6.size (fun k hk => by cases hk; exact HBG.out)
    have C9 : Below W.heap.size W w9 := C8.grown g3 C8.size (fun k hk => by cases hk; exact HBG.out)
    have hl6 : (6 : Int) < (L.length : Int) := by omega
    have hl7 : (7 : Int) < (L.length : Int) := by omega
    have hfin : (L.set 6 x6).set 7 x7 = udpB h an bn D := by
      unfold udpB
      rw [HX6.out, HX7.out, HNN.out, HL.out]
    have HFIN : Hid (OwnB w9 W.heap.size (.slice (some ⟨g, 0, none⟩) L.length cap) (udpB h an bn D)) := hide (by rw [← hfin]; exact ho3')
    have HC9 := hide C9
    clear hfin ho3' ho3 ho2' ho2 g2 g3 C6 C8 C9 hO6 hL8 hx6 hx7 t6 d6 t5d d0d t5 u5 d8 d0
    go_wp2
    go_ret2
    exact ⟨_, rfl, own_low HFIN.out HB.out.size, HB.out.trans (HC9.out.mono HB.out.size)⟩)
end Go.Proofs.Ytdmlgogjipcggaa
