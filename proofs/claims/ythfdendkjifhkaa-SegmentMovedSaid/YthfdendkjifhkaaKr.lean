/-
  The walk of the statement SegmentProto.
-/
import Derived.Test.YthfdendkjifhkaaKq
import Derived.Deep.RegionHeld3
namespace Go.Proofs.Ythfdendkjifhkaa
open Go.RowKit
attribute [local go_sem ↓] exec_span exec_put exec_build heap_alloc_new heap_old heap_alloc_drew
attribute [local go_sem] spanQ_ptr spanC_some heap_of_drew heap_of_drewN rs_arr rs_ad rs_ip rs_rip rs_seg rs_rseg putAt_ptr putOk_ptr oldOk_some World.setRow_alloc_new setRow_drew
set_option maxRecDepth 100000
set_option linter.unusedVariables false
set_option linter.unusedSimpArgs false

theorem InP.within {W : World} {X : Array Value} {h : Ip} {O D : List UInt8} (p : InP W X h O D) : Calls Try.prog 15 #[.agg X] W fun e w' => Given W h O D e w' :=
  withinH5_any W X h p.x O D p.o p.ol p.d p.dl p.oc p.dc (by have := p.om; omega) (by have := p.dm; omega)
theorem InS.given {W : World} {X : Array Value} {s : Sg} {O D : List UInt8} (p : InS W X s O D) : Calls Try.prog 13 #[.agg X] W fun e w' => GivenS W s O D e w' :=
  givenS_any W X s p.x O D p.o p.ol p.d p.dl p.oc p.dc (by have := p.om; omega) (by have := p.dm; omega)
theorem segE_giv (h : Ip) (g1 g2 : Nat) (D : List UInt8) : segE (givH h g1 g2) D = segE h D := rfl
/-- Parse of what is lent. -/
theorem parseG {w : World} {X : Array Value} {h : Ip} {O D : List UInt8} (p : InP w X h O D) (W1 : World) (g1 g2 : Nat) (L2 : Lentd W1 g2 D) :
    Calls Try.prog 21 #[.agg (ipL (givH h g1 g2)).toArray] W1 fun e w' => ParS W1 (givH h g1 g2) D e w' :=
  parseS_any W1 _ (givH h g1 g2) ⟨rfl, p.x.ls, p.x.ld⟩ D (L2.byt L2.lt) p.dl (Nat.le_add_right _ _) (Nat.le_trans p.dm (by decide))
theorem built_noneRS : Try.prog.built 30 [] = some (sgL nSg).toArray := by kernel_rfl

set_option maxHeartbeats 4000000 in
theorem segmentProto_any (w : World) (X : Array Value) (h : Ip) (O D : List UInt8) (p : InP w X h O D) (Y : Array Value) (s : Sg) (O2 D2 : List UInt8) (q : InS w Y s O2 D2) :
    Calls Try.prog 7 #[.agg X, .agg Y] w fun e w' => e = .returned (.bool true) ∧ Below w.heap.size w w' := by
  obtain ⟨W, hW⟩ : ∃ W, (w.alloc (.cells X 27)).alloc (.cells Y 30) = W := ⟨_, rfl⟩
  obtain ⟨r1, r2, hz, hbW⟩ := two_packs w X _ _ _ W hW
  have hxs := p.x.size
  have hxr := p.x.x0
  have hys := q.x.size
  have hyr := q.x.x0
  have c35 := (p.x.cells r1).c35
  have HKEEP := hide (fun (W1 : World) (b : Below W.heap.size W W1) => (⟨(b.block w.heap.size (by omega)).trans r1, (b.block (w.heap.size + 1) (by omega)).trans r2⟩ : W1.heap[w.heap.size]? = some (.cells X 27 (0, 0)) ∧ W1.heap[w.heap.size + 1]? = some (.cells Y 30 (0, 0))))
  have KW := hide (fun (W1 : World) (b : Below W.heap.size W W1) => (p.below (hbW.trans (b.mono hbW.size))).within)
  have KG := hide (fun (W1 : World) (b : Below W.heap.size W W1) => (q.below (hbW.trans (b.mono hbW.size))).given)
  have KP := hide (fun (W1 : World) (g1 g2 : Nat) (L : Lentd W1 g2 D) => parseG p W1 g1 g2 L)
  have KPut := hide (putWG p q)
  have HB := hide hbW
  have HZ := hide hz
  have HW := hide hW
  obtain ⟨P, hP⟩ : ∃ P, P = h.p := ⟨_, rfl⟩
  have HP := hide hP
  rw [← hP] at c35
  clear hz hbW hW hP p q
  go_enter Try.func7, Try.ntmps7
  go_upto_region 1 with (fail)
  change Code.wp _ _ _ _ ((w.alloc (.cells X 27)).alloc (.cells Y 30))
  rw [HW.out]
  have hkn : (P = 6 ∨ P = 17) ∨ (¬ P = 6 ∧ ¬ P = 17) := by omega
  rcases hkn with (rfl | rfl) | ⟨h6, h17⟩
  · go_wp2_with fail
    refine (knownS_any W).mono ?_
    rintro e w1 ⟨rfl, b1⟩
    have B1 := hide b1
    clear b1
    dsimp only
    go_wp2
    go_ret
    exact ⟨rfl, HB.out.trans (B1.out.mono HB.out.size)⟩
  · go_wp2_with fail
    refine (knownS_any W).mono ?_
    rintro e w1 ⟨rfl, b1⟩
    have B1 := hide b1
    clear b1
    dsimp only
    go_wp2
    go_ret
    exact ⟨rfl, HB.out.trans (B1.out.mono HB.out.size)⟩
  · have e6 : (P == 6) = false := by simpa using h6
    have e17 : (P == 17) = false := by simpa using h17
    have hE : Hid (segE h D = 14) := hide (by unfold segE; rw [← HP.out, if_neg h6, if_neg h17])
    have hPE : putE h s = 14 := by unfold putE; rw [← HP.out, if_neg (fun e => by omega)]
    have hPB : putB h s O2 D2 = [] := by unfold putB; rw [if_neg (by rw [hPE]; decide)]
    simp only [hPE, hPB] at KPut
    clear h6 h17 hPE hPB
    go_wp2_with fail
    refine (KW.out W (Below.refl _ _)).mono ?_
    rintro e w4 ⟨g1, g2, rfl, L1, L2, -, -, b4⟩
    have B4 : Hid (Below W.heap.size W w4) := hide b4
    have K := hide (KP.out w4 g1 g2 L2)
    obtain ⟨V, hV⟩ : ∃ V, V = (ipL (givH h g1 g2)).toArray := ⟨_, rfl⟩
    rw [← hV] at K ⊢
    clear b4 L1 L2 hV r1 r2
    dsimp only
    go_wp2_with fail
    refine K.out.mono ?_
    rintro e w5 ⟨Y5, rfl, b5, hY5, -⟩
    rw [segE_giv, hE.out]
    have hn := hY5 (by rw [segE_giv, hE.out]; decide)
    have nV : SgV Y5 nSg := by rw [hn]; exact nSg_ok
    have hbr := built_noneRS
    rw [← hn] at hbr
    have hns := nV.size
    have hno := nV.one
    have hn0 := nV.x0
    have NV := hide nV
    have B5 : Hid (Below W.heap.size W w5) := hide (B4.out.trans (b5.mono B4.out.size))
    have b6 : Below w5.heap.size w5 (w5.alloc (.cells Y5 31)) := (Below.refl _ _).alloc (Nat.le_refl _) _
    have r6 := heap_alloc_new w5 (.cells Y5 31)
    have B6 : Hid (Below W.heap.size W (w5.alloc (.cells Y5 31))) := hide (B5.out.trans (b6.mono B5.out.size))
    have hz6 : (w5.alloc (.cells Y5 31)).heap.size = w5.heap.size + 1 := by simp
    clear b5 hY5 hn nV b6 K
    dsimp only
    go_upto_region 4 with (fail)
    obtain ⟨G, hG⟩ : ∃ G, G = w5.heap.size := ⟨_, rfl⟩
    rw [← hG] at r6 hz6 ⊢
    generalize w5.alloc (.cells Y5 31) = W6 at r6 B6 hz6 ⊢
    clear hG
    have HR6 := hide r6
    have HZ6 := hide hz6
    obtain ⟨x6, y6⟩ := HKEEP.out W6 B6.out
    have x6d : W6.drew.heap[w.heap.size]? = some (.cells X 27 (0, 0)) := x6
    have y6d : W6.drew.heap[w.heap.size + 1]? = some (.cells Y 30 (0, 0)) := y6
    clear hz6 r6 B4 B5
    go_region_held3 (fun w' => w'.heap[w.heap.size]? = some (.cells X 27 (0, 0)) ∧ w'.heap[w.heap.size + 1]? = some (.cells Y 30 (0, 0)))
      (first | exact ⟨x6, y6⟩ | exact ⟨x6d, y6d⟩ | exact ⟨x7, y7⟩ | exact ⟨x8, y8⟩ | exact ⟨x9, y9⟩ | fail)
      (first
        | (go_at_call 15; (with_reducible refine (KW.out W6.drew B6.out.drew).mono ?_); rintro e w7 ⟨g3, g4, rfl, L3, L4, -, -, b7⟩
           have B7 : Hid (Below W6.heap.size W6 w7) := hide (below_undrew' b7)
           obtain ⟨x7, y7⟩ := HKEEP.out w7 (B6.out.trans (B7.out.mono B6.out.size))
           clear b7 L3 L4)
        | (go_at_call 13; (with_reducible refine (KG.out w7 (B6.out.trans (B7.out.mono B6.out.size))).mono ?_); rintro e w8 ⟨g5, g6, rfl, L5, L6, -, -, b8⟩
           have B8 : Hid (Below W6.heap.size W6 w8) := hide (B7.out.trans (b8.mono B7.out.size))
           obtain ⟨x8, y8⟩ := HKEEP.out w8 (B6.out.trans (B8.out.mono B6.out.size))
           have KPP := hide (KPut.out w8 g3 g4 g5 g6 L5 L6)
           clear b8 L5 L6)
        | (go_at_call 14; (with_reducible refine (KPP.out).mono ?_); rintro e w9 ⟨A9, c9, rfl, -, b9⟩
           have B9 : Hid (Below W6.heap.size W6 w9) := hide (B8.out.trans (b9.mono B8.out.size))
           obtain ⟨x9, y9⟩ := HKEEP.out w9 (B6.out.trans (B9.out.mono B6.out.size))
           clear b9)
        | fail)
    all_goals (
      have r9 : w9.heap[G]? = some (.cells Y5 31 (0, 0)) := (B9.out.block G (by have := HZ6.out; omega)).trans HR6.out
      clear x6 y6 x6d y6d x7 y7 x8 y8 x9 y9
      go_wp2_with fail
      refine (takenS_any w9 Y5 nSg NV.out).mono ?_
      rintro e w10 ⟨rfl, b10⟩
      have B10 : Hid (Below W6.heap.size W6 w10) := hide (B9.out.trans (b10.mono B9.out.size))
      clear b10 r9
      dsimp only
      go_wp2_with fail
      refine (refsameS_any w10 Y5 Y5 nSg none none 0 0 NV.out NV.out [] [] (Byt.nil _ _ _) rfl (Byt.nil _ _ _) rfl (Byt.nil _ _ _) (Byt.nil _ _ _)).mono ?_
      rintro e w11 ⟨rfl, b11⟩
      have B11 : Hid (Below W6.heap.size W6 w11) := hide (B10.out.trans (b11.mono B10.out.size))
      clear b11
      dsimp only
      go_wp2_with fail
      refine (knownS_any w11).mono ?_
      rintro e w12 ⟨rfl, b12⟩
      have B12 : Hid (Below w.heap.size w w12) := hide (HB.out.trans ((B6.out.trans ((B11.out.trans (b12.mono B11.out.size)).mono B6.out.size)).mono HB.out.size))
      clear b12
      dsimp only
      go_wp2
      go_ret
      exact ⟨rfl, B12.out⟩)
end Go.Proofs.Ythfdendkjifhkaa
