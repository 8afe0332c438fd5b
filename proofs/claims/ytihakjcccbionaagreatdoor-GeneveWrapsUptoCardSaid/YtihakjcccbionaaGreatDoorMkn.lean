import Derived.Test.YtihakjcccbionaaGreatDoorMke
section
/-
  The walk of segment.Put: of TCP, of a datagram, without a sum, refused.
-/
namespace Go.Proofs.YtihakjcccbionaaGreatDoor
open Go.RowKit
attribute [local go_sem ↓] exec_span exec_put exec_build heap_alloc_new heap_old
attribute [local go_sem] spanQ_ptr spanC_some heap_of_drew heap_of_drewN rs_arr rs_ad rs_ip rs_rip rs_seg putAt_ptr putOk_ptr oldOk_some World.setRow_alloc_new
set_option maxRecDepth 100000
set_option linter.unusedVariables false
set_option linter.unusedSimpArgs false

/-- how many bytes a segment's head has; its numbers as bytes; where its sum stands. -/
def hdN (s : Sg) : Nat := if s.p = 6 then 20 + s.no else 8
def hdB (s : Sg) : List UInt8 := if s.p = 6 then fldB (tcpF s.a.toNat s.b.toNat s.q s.k s.no s.f.toNat s.wn.toNat s.u.toNat) else fldB [(2, s.a.toNat), (2, s.b.toNat), (2, 8 + s.nd), (2, 0)]
def atS (p : Int) : Nat := if p = 6 then 16 else 6
/-- what is wrong with a segment; its bytes ahead of its sum; its bytes. -/
def putE (h : Ip) (s : Sg) : Int := if (h.p = 6 ∨ h.p = 17) ∧ s.p = h.p then (if rightS s = true ∧ (s.ns && h.v) = false then (if 65535 < hdN s + s.nd then 3 else 0) else 1) else 14
def seg0 (s : Sg) (O D : List UInt8) : List UInt8 := hdB s ++ O ++ D
def segB (h : Ip) (s : Sg) (O D : List UInt8) : List UInt8 :=
  if s.ns then seg0 s O D else ((seg0 s O D).set (atS h.p) (b8 (((sumV h (seg0 s O D) (atS h.p) : Nat) : Int) / 256))).set (atS h.p + 1) (b8 ((sumV h (seg0 s O D) (atS h.p) : Nat) : Int))
theorem rightS_facts {s : Sg} (hr : rightS s = true) : (0 ≤ s.a ∧ s.a ≤ 65535) ∧ (0 ≤ s.b ∧ s.b ≤ 65535) ∧ (s.p = 6 → (0 ≤ s.f ∧ s.f ≤ 255) ∧ (0 ≤ s.wn ∧ s.wn ≤ 65535) ∧ (0 ≤ s.u ∧ s.u ≤ 65535) ∧ s.no ≤ 40 ∧ s.no % 4 = 0 ∧ s.ns = false) ∧ (s.p ≠ 6 → s.q = 0 ∧ s.k = 0 ∧ s.f = 0 ∧ s.wn = 0 ∧ s.u = 0 ∧ s.no = 0) := by
  unfold rightS upL at hr
  by_cases h6 : s.p = 6
  · rw [if_pos h6] at hr
    simp at hr
    refine ⟨by omega, by omega, fun _ => ⟨by omega, by omega, by omega, by omega, by omega, ?_⟩, fun h => absurd h6 h⟩
    exact hr.2.2
  · rw [if_neg h6] at hr
    simp at hr
    exact ⟨by omega, by omega, fun h => absurd h h6, fun _ => ⟨by omega, by omega, by omega, by omega, by omega, by omega⟩⟩
theorem len_hdB (s : Sg) : (hdB s).length = if s.p = 6 then 20 else 8 := by
  unfold hdB
  split
  · simp [fldB, tcpF, length_numBytes]
  · simp [fldB, length_numBytes]

/-- the head of a segment that can be. -/
theorem headS_any (w : World) (X : Array Value) (s : Sg) (x : SgV X s) (hp : s.p = 6 ∨ s.p = 17) (hr : rightS s = true) (hn : s.nd ≤ 65527) :
    Calls Tryz.prog 33 #[.agg X] w fun e w' => ∃ v, e = .returned v ∧ OwnB w' w.heap.size v (hdB s) ∧ Below w.heap.size w w' := by
  obtain ⟨ha, hb, h6, h17⟩ := rightS_facts hr
  by_cases e6 : s.p = 6
  · obtain ⟨hf, hw, hu, hno, -, -⟩ := h6 e6
    unfold hdB
    rw [if_pos e6]
    exact headT_any w X s x e6 hno _ _ _ _ _ (Int.toNat_of_nonneg ha.1).symm (by omega) (Int.toNat_of_nonneg hb.1).symm (by omega) (Int.toNat_of_nonneg hf.1).symm (by omega) (Int.toNat_of_nonneg hw.1).symm (by omega) (Int.toNat_of_nonneg hu.1).symm (by omega)
  · obtain ⟨-, -, -, -, -, hno⟩ := h17 e6
    unfold hdB
    rw [if_neg e6]
    exact headU_any w X s x (by omega) (by omega) hn _ _ (Int.toNat_of_nonneg ha.1).symm (by omega) (Int.toNat_of_nonneg hb.1).symm (by omega)
set_option maxHeartbeats 1600000 in
theorem segPutT_any (w : World) (X Y : Array Value) (h : Ip) (s : Sg) (x : IpV X h) (y : SgV Y s) (hp : h.p = 6) (sp : s.p = 6) (hr : rightS s = true) (O D : List UInt8) (hO : Byt w w.heap.size s.ao O) (hOl : O.length = s.no) (hOc : s.no ≤ s.co) (honil : s.ao = none → s.co = 0) (hD : Byt w w.heap.size s.ad D) (hDl : D.length = s.nd) (hDc : s.nd ≤ s.cd) (hnil : s.ad = none → s.cd = 0) (hsz : 20 + s.no + s.nd ≤ 65535) :
    Calls Tryz.prog 16 #[.agg X, .agg Y] w fun e w' => ∃ v, e = .returned (.tuple #[v, .int .i64 0]) ∧ OwnB w' w.heap.size v (segB h s O D) ∧ Below w.heap.size w w' := by
  obtain ⟨W, hW⟩ : ∃ W, (w.alloc (.cells X 51)).alloc (.cells Y 55) = W := ⟨_, rfl⟩
  obtain ⟨r1, r2, hz, hbW⟩ := two_packs w X _ _ _ W hW
  obtain ⟨-, -, hr6, -⟩ := rightS_facts hr
  obtain ⟨-, -, -, hno40, -, hns⟩ := hr6 sp
  have hxs := x.size
  have hxr := x.x0
  have hys := y.size
  have hyr := y.x0
  have KR := hide (fun W1 => rightS_any W1 Y s y (by omega))
  rw [hr] at KR
  have KS := hide (fun W1 => sizeS_any W1 Y s y (by omega) (by omega))
  rw [if_pos sp] at KS
  have KH := hide (fun W1 => headS_any W1 Y s y (.inl sp) hr (by omega))
  have hkeep := hide (fun (W1 : World) (b : Below W.heap.size W W1) => (⟨(b.block w.heap.size (by omega)).trans r1, (b.block (w.heap.size + 1) (by omega)).trans r2⟩ : W1.heap[w.heap.size]? = some (.cells X 51 (0, 0)) ∧ W1.heap[w.heap.size + 1]? = some (.cells Y 55 (0, 0))))
  have HXC := hide (fun (W1 : World) (r : W1.heap[w.heap.size]? = some (.cells X 51 (0, 0))) => x.cells r)
  have HYC := hide (fun (W1 : World) (r : W1.heap[w.heap.size + 1]? = some (.cells Y 55 (0, 0))) => y.cells r)
  have c35 := (x.cells r1).c35
  rw [hp] at c35
  obtain ⟨d0, d1, d2, d3, d4, d5, d6, d7, d8, d9, d10⟩ := y.cells r2
  rw [sp] at d0
  rw [hns] at d8
  have HB := hide hbW
  have HZ := hide hz
  have HW := hide hW
  have HX := hide x
  have HY := hide y
  have HD := hide hD
  have HO := hide hO
  have HOL := hide hOl
  have HDL := hide hDl
  have hlH : Hid ((hdB s).length = 20) := hide (by rw [len_hdB, if_pos sp])
  have hsg : Hid (segB h s O D = ((seg0 s O D).set 16 (b8 (((sumV h (seg0 s O D) 16 : Nat) : Int) / 256))).set 17 (b8 ((sumV h (seg0 s O D) 16 : Nat) : Int))) := hide (by unfold segB; rw [hns, hp]; rfl)
  clear hz hbW hW hD x y hDl hO hOl hr6
  go_enter Tryz.func16, Tryz.ntmps16
  go_upto_region 1 with (fail)
  change Code.wp _ _ _ _ ((w.alloc (.cells X 51)).alloc (.cells Y 55))
  rw [HW.out]
  go_wp2_with fail
  refine (KR.out W).mono ?_
  rintro e w1 ⟨rfl, b1⟩
  have B1 : Hid (Below W.heap.size W w1) := hide b1
  obtain ⟨t1, u1⟩ := hkeep.out w1 b1
  have cX := HXC.out w1 t1
  have cY := HYC.out w1 u1
  have c8 := cY.c8
  rw [hns] at c8
  have hsz' : 20 + (s.no : Int) + (s.nd : Int) ≤ 65535 := by omega
  clear b1 cX cY d0 d1 d2 d3 d4 d5 d6 d7 d8 d9 d10 c35 r1 r2
  dsimp only
  go_wp2_with fail
  refine (KS.out w1).mono ?_
  rintro e w2 ⟨rfl, b2⟩
  have B2 : Hid (Below W.heap.size W w2) := hide (B1.out.trans (b2.mono B1.out.size))
  obtain ⟨t2, u2⟩ := hkeep.out w2 B2.out
  clear b2 c8 t1 u1
  dsimp only
  go_wp2_with fail
  refine (KH.out w2).mono ?_
  rintro e w3 ⟨v3, rfl, o3, b3⟩
  have B3 : Hid (Below W.heap.size W w3) := hide (B2.out.trans (b3.mono B2.out.size))
  have O3 : Hid (OwnB w3 W.heap.size v3 (hdB s)) := hide (own_low o3 B2.out.size)
  obtain ⟨t3, u3⟩ := hkeep.out w3 B3.out
  have c9 := (HYC.out w3 u3).c9
  rw [← HOL.out] at c9
  have HOb : Hid (Byt w3 w.heap.size s.ao O) := hide (HO.out.below (HB.out.trans (B3.out.mono HB.out.size)))
  clear b3 o3 t2 u2
  dsimp only
  go_wp2_with (at_builtin; refine wpList_app_bytes rfl (.tmp 40) (.tmp 42) rfl W.heap.size v3 _ O w.heap.size s.co s.ao rfl rfl (by exact O3.out) (by exact HOb.out) honil (by have := hlH.out; have := HOL.out; omega) B3.out.size ?_)
  intro v4 w4 o4 g4 a4
  have B4 : Hid (Below W.heap.size W w4) := hide (B3.out.grown g4 B3.out.size (fun k hk => (World.ownsRow.lt O3.out k hk).1))
  have O4 : Hid (OwnB w4 W.heap.size v4 (hdB s ++ O)) := hide o4
  obtain ⟨t4, u4⟩ := hkeep.out w4 B4.out
  have c10 := (HYC.out w4 u4).c10
  rw [← HDL.out] at c10
  have HDb : Hid (Byt w4 w.heap.size s.ad D) := hide (HD.out.below (HB.out.trans (B4.out.mono HB.out.size)))
  clear o4 g4 a4 t3 u3 c9
  go_wp2_with (at_builtin; refine wpList_app_bytes rfl (.tmp 44) (.tmp 46) rfl W.heap.size v4 _ D w.heap.size s.cd s.ad rfl rfl (by exact O4.out) (by exact HDb.out) hnil (by have := hlH.out; have := HDL.out; have := HOL.out; rw [List.length_append]; omega) B4.out.size ?_)
  intro v5 w5 o5 g5 a5
  have B5 : Hid (Below W.heap.size W w5) := hide (B4.out.grown g5 B4.out.size (fun k hk => (World.ownsRow.lt O4.out k hk).1))
  obtain ⟨L, hL⟩ : ∃ L, L = seg0 s O D := ⟨_, rfl⟩
  have hown : OwnB w5 W.heap.size v5 L := by
    rw [hL]; unfold seg0; first | exact o5 | (rw [List.append_assoc]; exact o5)
  have hLn : L.length = 20 + O.length + D.length := by
    rw [hL]; unfold seg0; rw [List.length_append, List.length_append, hlH.out]
  have HL := hide hL
  obtain ⟨t5, u5⟩ := hkeep.out w5 B5.out
  have d8 := (HYC.out w5 u5).c8
  rw [hns] at d8
  have d0 := (HYC.out w5 u5).c0
  rw [sp] at d0
  clear o5 g5 a5 t4 u4 c10 hL
  obtain ⟨g, cap, hv5, hbg⟩ : ∃ g cap, v5 = .slice (some ⟨g, 0, none⟩) L.length cap ∧ W.heap.size ≤ g := by
    rcases hown.2 with ⟨_, h0⟩ | ⟨g, cap, cur, e, hbg, -⟩
    · omega
    · exact ⟨g, cap, e, hbg⟩
  subst hv5
  obtain ⟨A', c', hv', hlc, hby, -, -⟩ := hown.shape
  cases hv'
  have hL65 : L.length ≤ 65535 := by have := HDL.out; have := HOL.out; omega
  obtain ⟨N, hN⟩ : ∃ N, N = sumV h L 16 := ⟨_, rfl⟩
  have KU : Hid (∀ W1 : World, Below w5.heap.size w5 W1 → Calls Tryz.prog 34 #[.agg X, .slice (some ⟨g, 0, none⟩) L.length cap] W1 fun e w' => e = .returned (.int .u16 (N : Int)) ∧ Below W1.heap.size W1 w') := hide (fun W1 hb1 => by
    have k := sumS_any W1 X h HX.out (some ⟨g, 0, none⟩) cap L ((hby.below hb1).more hb1.size) hlc (by omega) (by rw [hp, if_pos rfl]; omega)
    rw [hp, if_pos rfl, ← hN] at k
    exact k)
  have KA6 := hide (fun (W1 : World) => sumAt_any W1 6)
  rw [if_pos rfl] at KA6
  have hk5 := hide (fun (W1 : World) (b : Below w5.heap.size w5 W1) => (⟨(hkeep.out W1 (B5.out.trans (b.mono B5.out.size))).1, (World.cell?_of_block (w := w5) (b.block (w.heap.size + 1) (Array.getElem?_eq_some_iff.1 u5).1)).trans d0⟩ : W1.heap[w.heap.size]? = some (.cells X 51 (0, 0)) ∧ W1.cell? ⟨w.heap.size + 1, 0, none⟩ = some (.int .i64 6)))
  have t5d := (hk5.out w5.drew (Below.refl _ _).drew).1
  have d0d := (hk5.out w5.drew (Below.refl _ _).drew).2
  have HOWN := hide hown
  have HLN := hide hLn
  have HL65 := hide hL65
  have HBG := hide hbg
  have HNN := hide hN
  clear hown hby hlc hN hbg hLn hL65
  go_wp2_with fail
  go_region_held3 (fun w' => w'.heap[w.heap.size]? = some (.cells X 51 (0, 0)) ∧ w'.cell? ⟨w.heap.size + 1, 0, none⟩ = some (.int .i64 6))
    (first | exact ⟨t5d, d0d⟩ | exact ⟨t6, d6⟩ | fail)
    (first
      | (go_at_call 34; (with_reducible refine (KU.out w5.drew (Below.refl _ _).drew).mono ?_); rintro e w6 ⟨rfl, b6⟩; have B6 : Hid (Below w5.heap.size w5 w6) := hide (below_undrew' b6); obtain ⟨t6, d6⟩ := hk5.out w6 B6.out; clear b6)
      | (go_at_call 35; (with_reducible refine (KA6.out w6).mono ?_); rintro e w7 ⟨rfl, rfl⟩)
      | fail)
  all_goals (
    have hO6 : OwnB w6 W.heap.size (.slice (some ⟨g, 0, none⟩) L.length cap) L := World.ownsRow.kept HOWN.out (below_row B6.out none) (Classical.em _)
    have hL8 : 20 ≤ L.length := by have := HLN.out; omega
    obtain ⟨x6, hx6⟩ : ∃ u, u = b8 ((N : Int) / 256) := ⟨_, rfl⟩
    obtain ⟨x7, hx7⟩ : ∃ u, u = b8 (N : Int) := ⟨_, rfl⟩
    have e6 := b8_eq ((N : Int) / 256)
    have e7 := b8_eq (N : Int)
    rw [← hx6] at e6
    rw [← hx7] at e7
    have HX6 := hide hx6
    have HX7 := hide hx7
    have f6 := hO6.frozenAt 16
    have hc6 : ∃ u, w6.cell? ⟨g, 16, none⟩ = some u := ⟨_, (hO6.cellAt 16 (by omega)).trans (List.getElem?_eq_getElem (by simp; omega))⟩
    obtain ⟨u6, c6⟩ := hc6
    have ho2 := putByte hO6 16 (by omega) x6
    have g2 := (World.ownsRow.stored hO6 16 (.int .u8 (x6.toNat : Int))).2
    obtain ⟨w8, hw8⟩ : ∃ w', w6.setCell ⟨g, 16, none⟩ (.int .u8 (x6.toNat : Int)) = w' := ⟨_, rfl⟩
    have ho2' : OwnB w8 W.heap.size (.slice (some ⟨g, 0, none⟩) (L.set 16 x6).length cap) (L.set 16 x6) := by rw [← hw8, List.length_set]; exact ho2
    rw [hw8] at g2
    have f7 := ho2'.frozenAt 17
    have hc7 : ∃ u, w8.cell? ⟨g, 17, none⟩ = some u := ⟨_, (ho2'.cellAt 17 (by simp; omega)).trans (List.getElem?_eq_getElem (by simp; omega))⟩
    obtain ⟨u7, c7⟩ := hc7
    have ho3 := putByte ho2' 17 (by simp; omega) x7
    have g3 := (World.ownsRow.stored ho2' 17 (.int .u8 (x7.toNat : Int))).2
    obtain ⟨w9, hw9⟩ : ∃ w', w8.setCell ⟨g, 17, none⟩ (.int .u8 (x7.toNat : Int)) = w' := ⟨_, rfl⟩
    have ho3' : OwnB w9 W.heap.size (.slice (some ⟨g, 0, none⟩) L.length cap) ((L.set 16 x6).set 17 x7) := by rw [← hw9]; rw [List.length_set] at ho3; exact ho3
    rw [hw9] at g3
    have C6 : Below W.heap.size W w6 := B5.out.trans (B6.out.mono B5.out.size)
    have C8 : Below W.heap.size W w8 := C6.grown g2 C6.size (fun k hk => by cases hk; exact HBG.out)
    have C9 : Below W.heap.size W w9 := C8.grown g3 C8.size (fun k hk => by cases hk; exact HBG.out)
    have hl6 : (16 : Int) < (L.length : Int) := by omega
    have hl7 : (17 : Int) < (L.length : Int) := by omega
    have hfin : (L.set 16 x6).set 17 x7 = segB h s O D := by
      rw [hsg.out, HX6.out, HX7.out, HNN.out, HL.out]
    have HFIN : Hid (OwnB w9 W.heap.size (.slice (some ⟨g, 0, none⟩) L.length cap) (segB h s O D)) := hide (by rw [← hfin]; exact ho3')
    have HC9 := hide C9
    clear hfin ho3' ho3 ho2' ho2 g2 g3 C6 C8 C9 hO6 hL8 hx6 hx7 t6 d6 t5d d0d t5 u5 d8 d0
    go_wp2
    go_ret2
    exact ⟨_, rfl, own_low HFIN.out HB.out.size, HB.out.trans (HC9.out.mono HB.out.size)⟩)
end Go.Proofs.YtihakjcccbionaaGreatDoor

end
section
/-
  The walks of segment.Put: of a datagram with and without a sum, refused; of whatever segment.
-/
namespace Go.Proofs.YtihakjcccbionaaGreatDoor
open Go.RowKit
attribute [local go_sem ↓] exec_span exec_put exec_build heap_alloc_new heap_old
attribute [local go_sem] spanQ_ptr spanC_some heap_of_drew heap_of_drewN rs_arr rs_ad rs_ip rs_rip rs_seg putAt_ptr putOk_ptr oldOk_some World.setRow_alloc_new
set_option maxRecDepth 100000
set_option linter.unusedVariables false
set_option linter.unusedSimpArgs false

set_option maxHeartbeats 1600000 in
theorem segPutS_any (w : World) (X Y : Array Value) (h : Ip) (s : Sg) (x : IpV X h) (y : SgV Y s) (hp : h.p = 17) (sp : s.p = 17) (hr : rightS s = true) (hns : s.ns = false) (O D : List UInt8) (hO : Byt w w.heap.size s.ao O) (hOl : O.length = s.no) (hOc : s.no ≤ s.co) (honil : s.ao = none → s.co = 0) (hD : Byt w w.heap.size s.ad D) (hDl : D.length = s.nd) (hDc : s.nd ≤ s.cd) (hnil : s.ad = none → s.cd = 0) (hsz : 8 + s.nd ≤ 65535) :
    Calls Tryz.prog 16 #[.agg X, .agg Y] w fun e w' => ∃ v, e = .returned (.tuple #[v, .int .i64 0]) ∧ OwnB w' w.heap.size v (segB h s O D) ∧ Below w.heap.size w w' := by
  obtain ⟨W, hW⟩ : ∃ W, (w.alloc (.cells X 51)).alloc (.cells Y 55) = W := ⟨_, rfl⟩
  obtain ⟨r1, r2, hz, hbW⟩ := two_packs w X _ _ _ W hW
  obtain ⟨-, -, -, hr17⟩ := rightS_facts hr
  obtain ⟨-, -, -, -, -, hno0⟩ := hr17 (by omega)
  have hxs := x.size
  have hxr := x.x0
  have hys := y.size
  have hyr := y.x0
  have KR := hide (fun W1 => rightS_any W1 Y s y (by omega))
  rw [hr] at KR
  have KS := hide (fun W1 => sizeS_any W1 Y s y (by omega) (by omega))
  rw [if_neg (by omega)] at KS
  have KH := hide (fun W1 => headS_any W1 Y s y (.inr sp) hr (by omega))
  have hkeep := hide (fun (W1 : World) (b : Below W.heap.size W W1) => (⟨(b.block w.heap.size (by omega)).trans r1, (b.block (w.heap.size + 1) (by omega)).trans r2⟩ : W1.heap[w.heap.size]? = some (.cells X 51 (0, 0)) ∧ W1.heap[w.heap.size + 1]? = some (.cells Y 55 (0, 0))))
  have HXC := hide (fun (W1 : World) (r : W1.heap[w.heap.size]? = some (.cells X 51 (0, 0))) => x.cells r)
  have HYC := hide (fun (W1 : World) (r : W1.heap[w.heap.size + 1]? = some (.cells Y 55 (0, 0))) => y.cells r)
  have c35 := (x.cells r1).c35
  rw [hp] at c35
  obtain ⟨d0, d1, d2, d3, d4, d5, d6, d7, d8, d9, d10⟩ := y.cells r2
  rw [sp] at d0
  rw [hns] at d8
  have HB := hide hbW
  have HZ := hide hz
  have HW := hide hW
  have HX := hide x
  have HY := hide y
  have HD := hide hD
  have HO := hide hO
  have HOL := hide hOl
  have HDL := hide hDl
  have hlH : Hid ((hdB s).length = 8) := hide (by rw [len_hdB, if_neg (by omega)])
  have hsg : Hid (segB h s O D = ((seg0 s O D).set 6 (b8 (((sumV h (seg0 s O D) 6 : Nat) : Int) / 256))).set 7 (b8 ((sumV h (seg0 s O D) 6 : Nat) : Int))) := hide (by unfold segB; rw [hns, hp]; rfl)
  clear hz hbW hW hD x y hDl hO hOl hr17
  go_enter Tryz.func16, Tryz.ntmps16
  go_upto_region 1 with (fail)
  change Code.wp _ _ _ _ ((w.alloc (.cells X 51)).alloc (.cells Y 55))
  rw [HW.out]
  go_wp2_with fail
  refine (KR.out W).mono ?_
  rintro e w1 ⟨rfl, b1⟩
  have B1 : Hid (Below W.heap.size W w1) := hide b1
  obtain ⟨t1, u1⟩ := hkeep.out w1 b1
  have cX := HXC.out w1 t1
  have cY := HYC.out w1 u1
  have c8 := cY.c8
  rw [hns] at c8
  have hsz' : 8 + (s.nd : Int) ≤ 65535 := by omega
  clear b1 cX cY d0 d1 d2 d3 d4 d5 d6 d7 d8 d9 d10 c35 r1 r2
  dsimp only
  go_wp2_with fail
  refine (KS.out w1).mono ?_
  rintro e w2 ⟨rfl, b2⟩
  have B2 : Hid (Below W.heap.size W w2) := hide (B1.out.trans (b2.mono B1.out.size))
  obtain ⟨t2, u2⟩ := hkeep.out w2 B2.out
  clear b2 c8 t1 u1
  dsimp only
  go_wp2_with fail
  refine (KH.out w2).mono ?_
  rintro e w3 ⟨v3, rfl, o3, b3⟩
  have B3 : Hid (Below W.heap.size W w3) := hide (B2.out.trans (b3.mono B2.out.size))
  have O3 : Hid (OwnB w3 W.heap.size v3 (hdB s)) := hide (own_low o3 B2.out.size)
  obtain ⟨t3, u3⟩ := hkeep.out w3 B3.out
  have c9 := (HYC.out w3 u3).c9
  rw [← HOL.out] at c9
  have HOb : Hid (Byt w3 w.heap.size s.ao O) := hide (HO.out.below (HB.out.trans (B3.out.mono HB.out.size)))
  clear b3 o3 t2 u2
  dsimp only
  go_wp2_with (at_builtin; refine wpList_app_bytes rfl (.tmp 40) (.tmp 42) rfl W.heap.size v3 _ O w.heap.size s.co s.ao rfl rfl (by exact O3.out) (by exact HOb.out) honil (by have := hlH.out; have := HOL.out; omega) B3.out.size ?_)
  intro v4 w4 o4 g4 a4
  have B4 : Hid (Below W.heap.size W w4) := hide (B3.out.grown g4 B3.out.size (fun k hk => (World.ownsRow.lt O3.out k hk).1))
  have O4 : Hid (OwnB w4 W.heap.size v4 (hdB s ++ O)) := hide o4
  obtain ⟨t4, u4⟩ := hkeep.out w4 B4.out
  have c10 := (HYC.out w4 u4).c10
  rw [← HDL.out] at c10
  have HDb : Hid (Byt w4 w.heap.size s.ad D) := hide (HD.out.below (HB.out.trans (B4.out.mono HB.out.size)))
  clear o4 g4 a4 t3 u3 c9
  go_wp2_with (at_builtin; refine wpList_app_bytes rfl (.tmp 44) (.tmp 46) rfl W.heap.size v4 _ D w.heap.size s.cd s.ad rfl rfl (by exact O4.out) (by exact HDb.out) hnil (by have := hlH.out; have := HDL.out; have := HOL.out; rw [List.length_append]; omega) B4.out.size ?_)
  intro v5 w5 o5 g5 a5
  have B5 : Hid (Below W.heap.size W w5) := hide (B4.out.grown g5 B4.out.size (fun k hk => (World.ownsRow.lt O4.out k hk).1))
  obtain ⟨L, hL⟩ : ∃ L, L = seg0 s O D := ⟨_, rfl⟩
  have hown : OwnB w5 W.heap.size v5 L := by
    rw [hL]; unfold seg0; first | exact o5 | (rw [List.append_assoc]; exact o5)
  have hLn : L.length = 8 + O.length + D.length := by
    rw [hL]; unfold seg0; rw [List.length_append, List.length_append, hlH.out]
  have HL := hide hL
  obtain ⟨t5, u5⟩ := hkeep.out w5 B5.out
  have d8 := (HYC.out w5 u5).c8
  rw [hns] at d8
  have d0 := (HYC.out w5 u5).c0
  rw [sp] at d0
  clear o5 g5 a5 t4 u4 c10 hL
  obtain ⟨g, cap, hv5, hbg⟩ : ∃ g cap, v5 = .slice (some ⟨g, 0, none⟩) L.length cap ∧ W.heap.size ≤ g := by
    rcases hown.2 with ⟨_, h0⟩ | ⟨g, cap, cur, e, hbg, -⟩
    · omega
    · exact ⟨g, cap, e, hbg⟩
  subst hv5
  obtain ⟨A', c', hv', hlc, hby, -, -⟩ := hown.shape
  cases hv'
  have hL65 : L.length ≤ 65535 := by have := HDL.out; have := HOL.out; omega
  obtain ⟨N, hN⟩ : ∃ N, N = sumV h L 6 := ⟨_, rfl⟩
  have KU : Hid (∀ W1 : World, Below w5.heap.size w5 W1 → Calls Tryz.prog 34 #[.agg X, .slice (some ⟨g, 0, none⟩) L.length cap] W1 fun e w' => e = .returned (.int .u16 (N : Int)) ∧ Below W1.heap.size W1 w') := hide (fun W1 hb1 => by
    have k := sumS_any W1 X h HX.out (some ⟨g, 0, none⟩) cap L ((hby.below hb1).more hb1.size) hlc (by omega) (by rw [hp, if_neg (by decide)]; omega)
    rw [hp, if_neg (by decide), ← hN] at k
    exact k)
  have KA6 := hide (fun (W1 : World) => sumAt_any W1 17)
  rw [if_neg (by decide)] at KA6
  have hk5 := hide (fun (W1 : World) (b : Below w5.heap.size w5 W1) => (⟨(hkeep.out W1 (B5.out.trans (b.mono B5.out.size))).1, (World.cell?_of_block (w := w5) (b.block (w.heap.size + 1) (Array.getElem?_eq_some_iff.1 u5).1)).trans d0⟩ : W1.heap[w.heap.size]? = some (.cells X 51 (0, 0)) ∧ W1.cell? ⟨w.heap.size + 1, 0, none⟩ = some (.int .i64 17)))
  have t5d := (hk5.out w5.drew (Below.refl _ _).drew).1
  have d0d := (hk5.out w5.drew (Below.refl _ _).drew).2
  have HOWN := hide hown
  have HLN := hide hLn
  have HL65 := hide hL65
  have HBG := hide hbg
  have HNN := hide hN
  clear hown hby hlc hN hbg hLn hL65
  go_wp2_with fail
  go_region_held3 (fun w' => w'.heap[w.heap.size]? = some (.cells X 51 (0, 0)) ∧ w'.cell? ⟨w.heap.size + 1, 0, none⟩ = some (.int .i64 17))
    (first | exact ⟨t5d, d0d⟩ | exact ⟨t6, d6⟩ | fail)
    (first
      | (go_at_call 34; (with_reducible refine (KU.out w5.drew (Below.refl _ _).drew).mono ?_); rintro e w6 ⟨rfl, b6⟩; have B6 : Hid (Below w5.heap.size w5 w6) := hide (below_undrew' b6); obtain ⟨t6, d6⟩ := hk5.out w6 B6.out; clear b6)
      | (go_at_call 35; (with_reducible refine (KA6.out w6).mono ?_); rintro e w7 ⟨rfl, rfl⟩)
      | fail)
  all_goals (
    have hO6 : OwnB w6 W.heap.size (.slice (some ⟨g, 0, none⟩) L.length cap) L := World.ownsRow.kept HOWN.out (below_row B6.out none) (Classical.em _)
    have hL8 : 8 ≤ L.length := by have := HLN.out; omega
    obtain ⟨x6, hx6⟩ : ∃ u, u = b8 ((N : Int) / 256) := ⟨_, rfl⟩
    obtain ⟨x7, hx7⟩ : ∃ u, u = b8 (N : Int) := ⟨_, rfl⟩
    have e6 := b8_eq ((N : Int) / 256)
    have e7 := b8_eq (N : Int)
    rw [← hx6] at e6
    rw [← hx7] at e7
    have HX6 := hide hx6
    have HX7 := hide hx7
    have f6 := hO6.frozenAt 6
    have hc6 : ∃ u, w6.cell? ⟨g, 6, none⟩ = some u := ⟨_, (hO6.cellAt 6 (by omega)).trans (List.getElem?_eq_getElem (by simp; omega))⟩
    obtain ⟨u6, c6⟩ := hc6
    have ho2 := putByte hO6 6 (by omega) x6
    have g2 := (World.ownsRow.stored hO6 6 (.int .u8 (x6.toNat : Int))).2
    obtain ⟨w8, hw8⟩ : ∃ w', w6.setCell ⟨g, 6, none⟩ (.int .u8 (x6.toNat : Int)) = w' := ⟨_, rfl⟩
    have ho2' : OwnB w8 W.heap.size (.slice (some ⟨g, 0, none⟩) (L.set 6 x6).length cap) (L.set 6 x6) := by rw [← hw8, List.length_set]; exact ho2
    rw [hw8] at g2
    have f7 := ho2'.frozenAt 7
    have hc7 : ∃ u, w8.cell? ⟨g, 7, none⟩ = some u := ⟨_, (ho2'.cellAt 7 (by simp; omega)).trans (List.getElem?_eq_getElem (by simp; omega))⟩
    obtain ⟨u7, c7⟩ := hc7
    have ho3 := putByte ho2' 7 (by simp; omega) x7
    have g3 := (World.ownsRow.stored ho2' 7 (.int .u8 (x7.toNat : Int))).2
    obtain ⟨w9, hw9⟩ : ∃ w', w8.setCell ⟨g, 7, none⟩ (.int .u8 (x7.toNat : Int)) = w' := ⟨_, rfl⟩
    have ho3' : OwnB w9 W.heap.size (.slice (some ⟨g, 0, none⟩) L.length cap) ((L.set 6 x6).set 7 x7) := by rw [← hw9]; rw [List.length_set] at ho3; exact ho3
    rw [hw9] at g3
    have C6 : Below W.heap.size W w6 := B5.out.trans (B6.out.mono B5.out.size)
    have C8 : Below W.heap.size W w8 := C6.grown g2 C6.size (fun k hk => by cases hk; exact HBG.out)
    have C9 : Below W.heap.size W w9 := C8.grown g3 C8.size (fun k hk => by cases hk; exact HBG.out)
    have hl6 : (6 : Int) < (L.length : Int) := by omega
    have hl7 : (7 : Int) < (L.length : Int) := by omega
    have hfin : (L.set 6 x6).set 7 x7 = segB h s O D := by
      rw [hsg.out, HX6.out, HX7.out, HNN.out, HL.out]
    have HFIN : Hid (OwnB w9 W.heap.size (.slice (some ⟨g, 0, none⟩) L.length cap) (segB h s O D)) := hide (by rw [← hfin]; exact ho3')
    have HC9 := hide C9
    clear hfin ho3' ho3 ho2' ho2 g2 g3 C6 C8 C9 hO6 hL8 hx6 hx7 t6 d6 t5d d0d t5 u5 d8 d0
    go_wp2
    go_ret2
    exact ⟨_, rfl, own_low HFIN.out HB.out.size, HB.out.trans (HC9.out.mono HB.out.size)⟩)

set_option maxHeartbeats 1600000 in
theorem segPutN_any (w : World) (X Y : Array Value) (h : Ip) (s : Sg) (x : IpV X h) (y : SgV Y s) (hp : h.p = 17) (sp : s.p = 17) (hr : rightS s = true) (hns : s.ns = true) (hv : h.v = false) (O D : List UInt8) (hO : Byt w w.heap.size s.ao O) (hOl : O.length = s.no) (hOc : s.no ≤ s.co) (honil : s.ao = none → s.co = 0) (hD : Byt w w.heap.size s.ad D) (hDl : D.length = s.nd) (hDc : s.nd ≤ s.cd) (hnil : s.ad = none → s.cd = 0) (hsz : 8 + s.nd ≤ 65535) :
    Calls Tryz.prog 16 #[.agg X, .agg Y] w fun e w' => ∃ v, e = .returned (.tuple #[v, .int .i64 0]) ∧ OwnB w' w.heap.size v (segB h s O D) ∧ Below w.heap.size w w' := by
  obtain ⟨W, hW⟩ : ∃ W, (w.alloc (.cells X 51)).alloc (.cells Y 55) = W := ⟨_, rfl⟩
  obtain ⟨r1, r2, hz, hbW⟩ := two_packs w X _ _ _ W hW
  obtain ⟨-, -, -, hr17⟩ := rightS_facts hr
  obtain ⟨-, -, -, -, -, hno0⟩ := hr17 (by omega)
  have hxs := x.size
  have hxr := x.x0
  have hys := y.size
  have hyr := y.x0
  have KR := hide (fun W1 => rightS_any W1 Y s y (by omega))
  rw [hr] at KR
  have KS := hide (fun W1 => sizeS_any W1 Y s y (by omega) (by omega))
  rw [if_neg (by omega)] at KS
  have KH := hide (fun W1 => headS_any W1 Y s y (.inr sp) hr (by omega))
  have hkeep := hide (fun (W1 : World) (b : Below W.heap.size W W1) => (⟨(b.block w.heap.size (by omega)).trans r1, (b.block (w.heap.size + 1) (by omega)).trans r2⟩ : W1.heap[w.heap.size]? = some (.cells X 51 (0, 0)) ∧ W1.heap[w.heap.size + 1]? = some (.cells Y 55 (0, 0))))
  have HXC := hide (fun (W1 : World) (r : W1.heap[w.heap.size]? = some (.cells X 51 (0, 0))) => x.cells r)
  have HXV := hide (fun (W1 : World) (r : W1.heap[w.heap.size]? = some (.cells X 51 (0, 0))) => hv ▸ (x.cells r).c0)
  have HYC := hide (fun (W1 : World) (r : W1.heap[w.heap.size + 1]? = some (.cells Y 55 (0, 0))) => y.cells r)
  have c35 := (x.cells r1).c35
  rw [hp] at c35
  obtain ⟨d0, d1, d2, d3, d4, d5, d6, d7, d8, d9, d10⟩ := y.cells r2
  rw [sp] at d0
  rw [hns] at d8
  have HB := hide hbW
  have HZ := hide hz
  have HW := hide hW
  have HX := hide x
  have HY := hide y
  have HD := hide hD
  have HO := hide hO
  have HOL := hide hOl
  have HDL := hide hDl
  have hlH : Hid ((hdB s).length = 8) := hide (by rw [len_hdB, if_neg (by omega)])
  have hsg : Hid (segB h s O D = seg0 s O D) := hide (by unfold segB; rw [hns]; rfl)
  clear hz hbW hW hD x y hDl hO hOl hr17
  go_enter Tryz.func16, Tryz.ntmps16
  go_upto_region 1 with (fail)
  change Code.wp _ _ _ _ ((w.alloc (.cells X 51)).alloc (.cells Y 55))
  rw [HW.out]
  go_wp2_with fail
  refine (KR.out W).mono ?_
  rintro e w1 ⟨rfl, b1⟩
  have B1 : Hid (Below W.heap.size W w1) := hide b1
  obtain ⟨t1, u1⟩ := hkeep.out w1 b1
  have cX := HXC.out w1 t1
  have cY := HYC.out w1 u1
  have c8 := cY.c8
  rw [hns] at c8
  have hsz' : 8 + (s.nd : Int) ≤ 65535 := by omega
  have cv1 : w1.cell? ⟨w.heap.size, 0, none⟩ = some (.bool false) := HXV.out w1 t1
  clear b1 cX cY d0 d1 d2 d3 d4 d5 d6 d7 d8 d9 d10 c35 r1 r2
  dsimp only
  go_wp2_with fail
  refine (KS.out w1).mono ?_
  rintro e w2 ⟨rfl, b2⟩
  have B2 : Hid (Below W.heap.size W w2) := hide (B1.out.trans (b2.mono B1.out.size))
  obtain ⟨t2, u2⟩ := hkeep.out w2 B2.out
  clear b2 c8 t1 u1
  dsimp only
  go_wp2_with fail
  refine (KH.out w2).mono ?_
  rintro e w3 ⟨v3, rfl, o3, b3⟩
  have B3 : Hid (Below W.heap.size W w3) := hide (B2.out.trans (b3.mono B2.out.size))
  have O3 : Hid (OwnB w3 W.heap.size v3 (hdB s)) := hide (own_low o3 B2.out.size)
  obtain ⟨t3, u3⟩ := hkeep.out w3 B3.out
  have c9 := (HYC.out w3 u3).c9
  rw [← HOL.out] at c9
  have HOb : Hid (Byt w3 w.heap.size s.ao O) := hide (HO.out.below (HB.out.trans (B3.out.mono HB.out.size)))
  clear b3 o3 t2 u2
  dsimp only
  go_wp2_with (at_builtin; refine wpList_app_bytes rfl (.tmp 40) (.tmp 42) rfl W.heap.size v3 _ O w.heap.size s.co s.ao rfl rfl (by exact O3.out) (by exact HOb.out) honil (by have := hlH.out; have := HOL.out; omega) B3.out.size ?_)
  intro v4 w4 o4 g4 a4
  have B4 : Hid (Below W.heap.size W w4) := hide (B3.out.grown g4 B3.out.size (fun k hk => (World.ownsRow.lt O3.out k hk).1))
  have O4 : Hid (OwnB w4 W.heap.size v4 (hdB s ++ O)) := hide o4
  obtain ⟨t4, u4⟩ := hkeep.out w4 B4.out
  have c10 := (HYC.out w4 u4).c10
  rw [← HDL.out] at c10
  have HDb : Hid (Byt w4 w.heap.size s.ad D) := hide (HD.out.below (HB.out.trans (B4.out.mono HB.out.size)))
  clear o4 g4 a4 t3 u3 c9
  go_wp2_with (at_builtin; refine wpList_app_bytes rfl (.tmp 44) (.tmp 46) rfl W.heap.size v4 _ D w.heap.size s.cd s.ad rfl rfl (by exact O4.out) (by exact HDb.out) hnil (by have := hlH.out; have := HDL.out; have := HOL.out; rw [List.length_append]; omega) B4.out.size ?_)
  intro v5 w5 o5 g5 a5
  have B5 : Hid (Below W.heap.size W w5) := hide (B4.out.grown g5 B4.out.size (fun k hk => (World.ownsRow.lt O4.out k hk).1))
  obtain ⟨L, hL⟩ : ∃ L, L = seg0 s O D := ⟨_, rfl⟩
  have hown : OwnB w5 W.heap.size v5 L := by
    rw [hL]; unfold seg0; first | exact o5 | (rw [List.append_assoc]; exact o5)
  have hLn : L.length = 8 + O.length + D.length := by
    rw [hL]; unfold seg0; rw [List.length_append, List.length_append, hlH.out]
  have HL := hide hL
  obtain ⟨t5, u5⟩ := hkeep.out w5 B5.out
  have d8 := (HYC.out w5 u5).c8
  rw [hns] at d8
  clear o5 g5 a5 t4 u4 c10 hL
  have HF5 : Hid (OwnB w5 W.heap.size v5 (segB h s O D)) := hide (by rw [hsg.out, ← HL.out]; exact hown)
  clear hown hLn
  go_wp2
  go_ret2
  exact ⟨_, rfl, own_low HF5.out HB.out.size, HB.out.trans (B5.out.mono HB.out.size)⟩

set_option maxHeartbeats 1600000 in
theorem segPutM_any (w : World) (X Y : Array Value) (h : Ip) (s : Sg) (x : IpV X h) (y : SgV Y s) (hp : h.p = 6 ∨ h.p = 17) (sp : s.p ≠ h.p) :
    Calls Tryz.prog 16 #[.agg X, .agg Y] w fun e w' => e = .returned (.tuple #[.slice none 0 0, .int .i64 14]) ∧ Below w.heap.size w w' := by
  obtain ⟨W, hW⟩ : ∃ W, (w.alloc (.cells X 51)).alloc (.cells Y 55) = W := ⟨_, rfl⟩
  obtain ⟨r1, r2, hz, hb⟩ := two_packs w X _ _ _ W hW
  have c35 := (x.cells r1).c35
  obtain ⟨d0, d1, d2, d3, d4, d5, d6, d7, d8, d9, d10⟩ := y.cells r2
  have HB := hide hb
  have HW := hide hW
  obtain ⟨p, hpe⟩ : ∃ p, p = h.p := ⟨_, rfl⟩
  obtain ⟨q, hqe⟩ : ∃ q, q = s.p := ⟨_, rfl⟩
  rw [← hpe] at c35 hp sp
  rw [← hqe] at d0 sp
  clear hz hb hW r1 r2 x y hpe hqe
  rcases hp with rfl | rfl
  all_goals (
    first
      | have e1 : (q != 6) = true := by simpa using sp
      | have e1 : (q != 17) = true := by simpa using sp
    clear sp
    go_enter Tryz.func16, Tryz.ntmps16
    go_upto_region 1 with (fail)
    change Code.wp _ _ _ _ ((w.alloc (.cells X 51)).alloc (.cells Y 55))
    rw [HW.out]
    go_wp2
    go_ret2
    exact ⟨rfl, HB.out⟩)

set_option maxHeartbeats 1600000 in
theorem segPutA_any (w : World) (X Y : Array Value) (h : Ip) (s : Sg) (x : IpV X h) (y : SgV Y s) (p : Int) (hp : p = h.p) (hpp : p = 6 ∨ p = 17) (sp : s.p = h.p) (hno : s.no ≤ 140737488355328) (hbad : ¬ (rightS s = true ∧ (s.ns && h.v) = false)) :
    Calls Tryz.prog 16 #[.agg X, .agg Y] w fun e w' => e = .returned (.tuple #[.slice none 0 0, .int .i64 1]) ∧ Below w.heap.size w w' := by
  obtain ⟨W, hW⟩ : ∃ W, (w.alloc (.cells X 51)).alloc (.cells Y 55) = W := ⟨_, rfl⟩
  obtain ⟨r1, r2, hz, hbW⟩ := two_packs w X _ _ _ W hW
  have hxs := x.size
  have hxr := x.x0
  have hys := y.size
  have hyr := y.x0
  have KR := hide (fun W1 => rightS_any W1 Y s y hno)
  have hkeep := hide (fun (W1 : World) (b : Below W.heap.size W W1) => (⟨(b.block w.heap.size (by omega)).trans r1, (b.block (w.heap.size + 1) (by omega)).trans r2⟩ : W1.heap[w.heap.size]? = some (.cells X 51 (0, 0)) ∧ W1.heap[w.heap.size + 1]? = some (.cells Y 55 (0, 0))))
  have HC := hide (fun (W1 : World) (b : Below W.heap.size W W1) => (⟨(x.cells (hkeep.out W1 b).1).c0, (y.cells (hkeep.out W1 b).2).c8⟩ : W1.cell? ⟨w.heap.size, 0, none⟩ = some (.bool h.v) ∧ W1.cell? ⟨w.heap.size + 1, 8, none⟩ = some (.bool s.ns)))
  have c35 := (x.cells r1).c35
  have d0 := (y.cells r2).c0
  rw [← hp] at c35
  rw [sp, ← hp] at d0
  obtain ⟨r, hrr⟩ : ∃ r, r = rightS s := ⟨_, rfl⟩
  obtain ⟨v, hv⟩ : ∃ v, v = h.v := ⟨_, rfl⟩
  obtain ⟨ns, hns⟩ : ∃ v, v = s.ns := ⟨_, rfl⟩
  rw [← hrr] at KR hbad
  rw [← hns, ← hv] at HC hbad
  have HB := hide hbW
  have HW := hide hW
  have key : r = false ∨ (r = true ∧ ns = true ∧ v = true) := by cases r <;> cases ns <;> cases v <;> simp_all
  clear hz hbW hW x y hp sp hrr hv hns hbad
  rcases hpp with rfl | rfl
  all_goals (
    rcases key with rfl | ⟨rfl, rfl, rfl⟩
    all_goals (
      go_enter Tryz.func16, Tryz.ntmps16
      go_upto_region 1 with (fail)
      change Code.wp _ _ _ _ ((w.alloc (.cells X 51)).alloc (.cells Y 55))
      rw [HW.out]
      go_wp2_with fail
      refine (KR.out W).mono ?_
      rintro e w1 ⟨rfl, b1⟩
      have B1 : Hid (Below W.heap.size W w1) := hide b1
      obtain ⟨q0, q8⟩ := HC.out w1 b1
      clear b1
      dsimp only
      go_wp2
      go_ret2
      exact ⟨rfl, HB.out.trans (B1.out.mono HB.out.size)⟩))

set_option maxHeartbeats 1600000 in
theorem segPutZ_any (w : World) (X Y : Array Value) (h : Ip) (s : Sg) (x : IpV X h) (y : SgV Y s) (p : Int) (hp : p = h.p) (hpp : p = 6 ∨ p = 17) (sp : s.p = h.p) (hno : s.no ≤ 140737488355328) (hnd : s.nd ≤ 140737488355328) (hr : rightS s = true) (hnv : (s.ns && h.v) = false) (hbig : 65535 < hdN s + s.nd) :
    Calls Tryz.prog 16 #[.agg X, .agg Y] w fun e w' => e = .returned (.tuple #[.slice none 0 0, .int .i64 3]) ∧ Below w.heap.size w w' := by
  obtain ⟨W, hW⟩ : ∃ W, (w.alloc (.cells X 51)).alloc (.cells Y 55) = W := ⟨_, rfl⟩
  obtain ⟨r1, r2, hz, hbW⟩ := two_packs w X _ _ _ W hW
  have hxs := x.size
  have hxr := x.x0
  have hys := y.size
  have hyr := y.x0
  have KR := hide (fun W1 => rightS_any W1 Y s y hno)
  have hkeep := hide (fun (W1 : World) (b : Below W.heap.size W W1) => (⟨(b.block w.heap.size (by omega)).trans r1, (b.block (w.heap.size + 1) (by omega)).trans r2⟩ : W1.heap[w.heap.size]? = some (.cells X 51 (0, 0)) ∧ W1.heap[w.heap.size + 1]? = some (.cells Y 55 (0, 0))))
  have HC := hide (fun (W1 : World) (b : Below W.heap.size W W1) => (⟨(x.cells (hkeep.out W1 b).1).c0, (y.cells (hkeep.out W1 b).2).c8⟩ : W1.cell? ⟨w.heap.size, 0, none⟩ = some (.bool h.v) ∧ W1.cell? ⟨w.heap.size + 1, 8, none⟩ = some (.bool s.ns)))
  have c35 := (x.cells r1).c35
  have d0 := (y.cells r2).c0
  rw [← hp] at c35
  rw [sp, ← hp] at d0
  have KS := hide (fun W1 => sizeS_any W1 Y s y hno hnd)
  rw [hr] at KR
  obtain ⟨v, hv⟩ : ∃ v, v = h.v := ⟨_, rfl⟩
  obtain ⟨ns, hns⟩ : ∃ v, v = s.ns := ⟨_, rfl⟩
  rw [← hns, ← hv] at HC hnv
  obtain ⟨N, hN⟩ : ∃ N, N = if s.p = 6 then 20 + (s.no : Int) + (s.nd : Int) else 8 + (s.nd : Int) := ⟨_, rfl⟩
  have hN2 : ¬ N ≤ 65535 := by unfold hdN at hbig; split at hbig <;> simp_all <;> omega
  have hN3 : (65535 : Int) < N := by omega
  rw [← hN] at KS
  have HB := hide hbW
  have HW := hide hW
  clear hz hbW hW x y hp sp hv hns hbig hN
  rcases hpp with rfl | rfl
  all_goals (
    go_enter Tryz.func16, Tryz.ntmps16
    go_upto_region 1 with (fail)
    change Code.wp _ _ _ _ ((w.alloc (.cells X 51)).alloc (.cells Y 55))
    rw [HW.out]
    go_wp2_with fail
    refine (KR.out W).mono ?_
    rintro e w1 ⟨rfl, b1⟩
    have B1 : Hid (Below W.heap.size W w1) := hide b1
    obtain ⟨q0, q8⟩ := HC.out w1 b1
    obtain ⟨-, u1⟩ := hkeep.out w1 b1
    clear b1
    dsimp only
    have kk : ns = false ∨ (ns = true ∧ v = false) := by cases ns <;> cases v <;> simp_all
    rcases kk with rfl | ⟨rfl, rfl⟩
    all_goals (
      go_wp2_with fail
      refine (KS.out w1).mono ?_
      rintro e w2 ⟨rfl, b2⟩
      have B2 : Hid (Below W.heap.size W w2) := hide (B1.out.trans (b2.mono B1.out.size))
      clear b2
      dsimp only
      go_wp2
      go_ret2
      exact ⟨rfl, HB.out.trans (B2.out.mono HB.out.size)⟩))

/-- Put of whatever segment, whatever packet it is within. -/
def putB (h : Ip) (s : Sg) (O D : List UInt8) : List UInt8 := if putE h s = 0 then segB h s O D else []
theorem segPut_any (w : World) (X Y : Array Value) (h : Ip) (s : Sg) (x : IpV X h) (y : SgV Y s) (O D : List UInt8) (hO : Byt w w.heap.size s.ao O) (hOl : O.length = s.no) (hOc : s.no ≤ s.co) (honil : s.ao = none → s.co = 0) (hD : Byt w w.heap.size s.ad D) (hDl : D.length = s.nd) (hDc : s.nd ≤ s.cd) (hnil : s.ad = none → s.cd = 0) (hno : s.no ≤ 140737488355328) (hnd : s.nd ≤ 140737488355328) :
    Calls Tryz.prog 16 #[.agg X, .agg Y] w fun e w' => ∃ A c, e = .returned (.tuple #[.slice A (putB h s O D).length c, .int .i64 (putE h s)]) ∧ OwnB w' w.heap.size (.slice A (putB h s O D).length c) (putB h s O D) ∧ Below w.heap.size w w' := by
  have bad : ∀ E : Int, E ≠ 0 → putE h s = E → (Calls Tryz.prog 16 #[.agg X, .agg Y] w fun e w' => e = .returned (.tuple #[.slice none 0 0, .int .i64 E]) ∧ Below w.heap.size w w') → Calls Tryz.prog 16 #[.agg X, .agg Y] w fun e w' => ∃ A c, e = .returned (.tuple #[.slice A (putB h s O D).length c, .int .i64 (putE h s)]) ∧ OwnB w' w.heap.size (.slice A (putB h s O D).length c) (putB h s O D) ∧ Below w.heap.size w w' := fun E h0 hE hc => by
    have hB : putB h s O D = [] := by unfold putB; rw [if_neg (by rw [hE]; exact h0)]
    rw [hB, hE]
    exact hc.mono fun e w' ⟨h1, h2⟩ => ⟨none, 0, h1, OwnB.nil _ _, h2⟩
  by_cases hp : h.p = 6 ∨ h.p = 17
  · by_cases sp : s.p = h.p
    · by_cases hk : rightS s = true ∧ (s.ns && h.v) = false
      · by_cases hz : 65535 < hdN s + s.nd
        · exact bad 3 (by decide) (by unfold putE; rw [if_pos ⟨hp, sp⟩, if_pos hk, if_pos hz]) (segPutZ_any w X Y h s x y h.p rfl hp sp hno hnd hk.1 hk.2 hz)
        · have hE : putE h s = 0 := by unfold putE; rw [if_pos ⟨hp, sp⟩, if_pos hk, if_neg hz]
          have hB : putB h s O D = segB h s O D := by unfold putB; rw [if_pos hE]
          have fin : (Calls Tryz.prog 16 #[.agg X, .agg Y] w fun e w' => ∃ v, e = .returned (.tuple #[v, .int .i64 0]) ∧ OwnB w' w.heap.size v (segB h s O D) ∧ Below w.heap.size w w') → _ := fun hc => hc.mono (R' := fun e w' => ∃ A c, e = .returned (.tuple #[.slice A (putB h s O D).length c, .int .i64 (putE h s)]) ∧ OwnB w' w.heap.size (.slice A (putB h s O D).length c) (putB h s O D) ∧ Below w.heap.size w w') fun e w' ⟨v, h1, h2, h3⟩ => by
            obtain ⟨A, c, rfl, -⟩ := h2.shape
            rw [hB, hE]
            exact ⟨A, c, h1, h2, h3⟩
          rcases hp with hp | hp
          · have s6 : s.p = 6 := by rw [sp]; exact hp
            exact fin (segPutT_any w X Y h s x y hp s6 hk.1 O D hO hOl hOc honil hD hDl hDc hnil (by unfold hdN at hz; rw [if_pos s6] at hz; omega))
          · have s17 : s.p = 17 := by rw [sp]; exact hp
            have hz2 : 8 + s.nd ≤ 65535 := by unfold hdN at hz; rw [if_neg (by omega)] at hz; omega
            by_cases hn : s.ns = true
            · have hv : h.v = false := by have := hk.2; rw [hn] at this; simpa using this
              exact fin (segPutN_any w X Y h s x y hp s17 hk.1 hn hv O D hO hOl hOc honil hD hDl hDc hnil hz2)
            · exact fin (segPutS_any w X Y h s x y hp s17 hk.1 (by simpa using hn) O D hO hOl hOc honil hD hDl hDc hnil hz2)
      · exact bad 1 (by decide) (by unfold putE; rw [if_pos ⟨hp, sp⟩, if_neg hk]) (segPutA_any w X Y h s x y h.p rfl hp sp hno hk)
    · exact bad 14 (by decide) (by unfold putE; rw [if_neg (fun e => sp e.2)]) (segPutM_any w X Y h s x y hp sp)
  · exact bad 14 (by decide) (by unfold putE; rw [if_neg (fun e => hp e.1)]) (segPutP_any w X Y h s x y (fun e => hp (.inl e)) (fun e => hp (.inr e)))
end Go.Proofs.YtihakjcccbionaaGreatDoor

end
