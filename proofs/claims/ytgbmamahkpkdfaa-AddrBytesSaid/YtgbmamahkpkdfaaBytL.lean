/-
  The walk of the statement AddrBytes: true; nothing that was there is written.
-/
import Derived.Test.YtgbmamahkpkdfaaPut
import Derived.Test.YtgbmamahkpkdfaaPutR
import Derived.Test.YtgbmamahkpkdfaaGet
import Derived.Test.YtgbmamahkpkdfaaGetR
import Derived.Test.YtgbmamahkpkdfaaTue
import Derived.Test.YtgbmamahkpkdfaaAdz
namespace Go.Proofs.Ytgbmamahkpkdfaa
open Go.RowKit
attribute [local go_sem ↓] exec_span exec_put exec_build heap_alloc_new heap_old
attribute [local go_sem] spanQ_ptr spanC_some heap_of_drew heap_of_drewN rs_arr rs_ad rs_tup putAt_ptr putOk_ptr oldOk_some built_none World.setRow_alloc_new
set_option maxRecDepth 100000
set_option linter.unusedVariables false

set_option maxHeartbeats 4000000 in
theorem addrBytes_any (w : World) (X : Array Value) (t : Tup) (A : Option Addr) (c : Nat) (b : List UInt8) (h : TuV X t) (hl : b.length ≤ c) (hn : b.length ≤ 140737488355320) (hb : Byt w w.heap.size A b) :
    Calls Try.prog 5 #[.agg X, .slice A b.length c] w fun e w' => e = .returned (.bool true) ∧ Below w.heap.size w w' := by
  go_enter Try.func5, Try.ntmps5
  have hXs := h.size
  have hXo : allOne X = true := h.one
  have hX0 := h.x0
  obtain ⟨W, hW, h1, hz, hbw⟩ := one_block w (.cells X 62)
  have HB := hide hbw
  have HZ := hide hz
  have C1 := hide (lent_any A c b W.heap.size W hl hn ((hb.below hbw).more (by omega)) (Nat.le_refl _))
  have HT := hide h
  have HBY := hide hb
  have HL := hide hl
  have HN := hide hn
  have HK := hide (fun W => knownA_any W)
  obtain ⟨T, hT⟩ : ∃ T, T = getT b := ⟨_, rfl⟩
  obtain ⟨GE, hGE⟩ : ∃ T, T = getE b := ⟨_, rfl⟩
  obtain ⟨L, hL⟩ : ∃ T, T = putB t := ⟨_, rfl⟩
  obtain ⟨PE, hPE⟩ : ∃ T, T = putE t := ⟨_, rfl⟩
  have cput := hide (fun W => puttuple_any W X t h)
  have crput := hide (fun W => refputtuple_any W X t h)
  have cget := hide (fun (W : World) B A c hl hb hB => gettuple_any W B A c b hl (by omega) hb hB)
  have crget := hide (fun (W : World) B A c hl hb hB => refgettuple_any W B A c b hl (by omega) hb hB)
  rw [← hL, ← hPE] at cput crput
  rw [← hT, ← hGE] at cget crget
  have HT' := hide hT
  have HGE := hide hGE
  have HPL := hide hL
  have HPE := hide hPE
  have H1 := hide h1
  have HNB : Hid (b.length ≤ 140737488355320) := hide hn
  clear hbw hz hb hl hn hT hGE hL hPE h
  go_wp2_with fail
  refine C1.out.mono ?_
  rintro e w1 ⟨rfl, hl1, hb1⟩
  have h11 := row_kept hb1 (by have := HZ.out; omega) H1.out
  have HL1 := hide hl1
  have HB1 : Hid (Below w.heap.size w w1) := hide (HB.out.trans (hb1.mono (by have := HZ.out; omega)))
  have HG1 : Hid (W.heap.size < w1.heap.size) := hide hl1.lt
  have HW1 : Hid (w.heap.size < w1.heap.size) := hide (by have := HZ.out; have := hl1.lt; omega)
  have H11 := hide h11
  clear C1 hl1 hb1
  dsimp only
  go_wp2_with fail
  refine (cput.out _).mono ?_
  rintro e w2 ⟨⟨Ax, cx, rfl, hyx, hlx, hnx⟩, hb2⟩
  have h12 := row_kept hb2 HW1.out H11.out
  have HB12 := hide hb2
  have HYX := hide hyx
  clear h11 hyx hb2
  dsimp only
  go_wp2_with fail
  refine (crput.out _).mono ?_
  rintro e w3 ⟨⟨Ay, cy, rfl, hyy, hly, hny⟩, hb3⟩
  have HB13 := hide (HB12.out.trans (hb3.mono HB12.out.size))
  have HB23 := hide hb3
  have HYY := hide hyy
  have hl3 := HL1.out.below HB13.out HG1.out
  have HL3 := hide hl3
  have h13 := row_kept HB13.out HW1.out H11.out
  have HG3 : Hid (W.heap.size < w3.heap.size) := hide hl3.lt
  clear hyy hb3 hl3 h12
  dsimp only
  go_wp2_with fail
  refine (cget.out w3 w3.heap.size (some ⟨W.heap.size, 0, none⟩) (b.length + 8) (by omega) (HL3.out.byt HG3.out) (Nat.le_refl _)).mono ?_
  rintro e w4 ⟨⟨P, rfl, hP⟩, hb4⟩
  have hPs := hP.size
  have hPo : allOne P = true := hP.one
  have hP0 := hP.x0
  have HP := hide hP
  have HB34 := hide hb4
  have HB24 := hide (HB23.out.trans (hb4.mono HB23.out.size))
  have HB14 := hide (HB13.out.trans (hb4.mono HB13.out.size))
  have HB0 : Hid (Below w.heap.size w (w4.alloc (.cells P 62))) := hide ((HB1.out.trans (HB14.out.mono HB1.out.size)).alloc (by have := HB1.out.size; have := HB14.out.size; omega) _)
  clear hP hb4 h13
  dsimp only
  go_wp2_with fail
  refine (crget.out (w4.alloc (.cells P 62)) w.heap.size A c HL.out (HBY.out.below HB0.out) HB0.out.size).mono ?_
  rintro e w5 ⟨⟨Q, rfl, hQ⟩, hb5⟩
  have hQs := hQ.size
  have hQo : allOne Q = true := hQ.one
  have hQ0 := hQ.x0
  have HQ := hide hQ
  have hp5 := row_kept hb5 (by simp) (heap_alloc_new w4 (.cells P 62))
  have L45 : LtN w4.heap.size w5.heap.size := (Array.getElem?_eq_some_iff.1 hp5).1
  have HB15 : Hid (Below w1.heap.size w1 w5) := hide ((HB14.out.alloc HB14.out.size _).trans (hb5.mono (by have := HB14.out.size; simp; omega)))
  have h15 := row_kept HB15.out HW1.out H11.out
  have hl5 := HL1.out.below HB15.out HG1.out
  have LX5 : LtN w.heap.size w5.heap.size := (Array.getElem?_eq_some_iff.1 h15).1
  have HB05 : Hid (Below w.heap.size w w5) := hide (HB1.out.trans (HB15.out.mono HB1.out.size))
  have hstep : ∀ a : World, Below a.heap.size a w4 → Below a.heap.size a w5 := fun a h => (h.alloc h.size _).trans (hb5.mono (by have := h.size; simp; omega))
  have HYX5 : Hid (Byt w5 w2.heap.size Ax L) := hide (HYX.out.below (hstep _ HB24.out))
  have HYY5 : Hid (Byt w5 w3.heap.size Ay L) := hide (HYY.out.below (hstep _ HB34.out))
  have HS23 : Hid (w2.heap.size ≤ w5.heap.size ∧ w3.heap.size ≤ w5.heap.size) := hide ⟨(hstep _ HB24.out).size, (hstep _ HB34.out).size⟩
  have hne := fun W => neq_tu W P Q T T HP.out HQ.out
  have hsame : sameT T T = true := (sameT_iff T T).2 rfl
  rw [hsame, Bool.not_true] at hne
  clear hQ hb5 hsame hstep
  dsimp only
  obtain ⟨W5, hW5⟩ : ∃ W5, W5 = w5.alloc (.cells Q 62) := ⟨_, rfl⟩
  have hA5 : Below w5.heap.size w5 W5 := by rw [hW5]; exact (Below.refl _ _).alloc (Nat.le_refl _) _
  have hp6 : W5.heap[w4.heap.size]? = some (.cells P 62 (0, 0)) := row_kept hA5 L45 hp5
  have hq6 : W5.heap[w5.heap.size]? = some (.cells Q 62 (0, 0)) := by rw [hW5]; exact heap_alloc_new w5 _
  have hx6 : W5.heap[w.heap.size]? = some (.cells X 62 (0, 0)) := row_kept hA5 LX5 h15
  have hkx := conv_any Ax cx L w2.heap.size W5 (HYX5.out.below (hA5.mono HS23.out.1))
  have hky := conv_any Ay cy L w3.heap.size W5 (HYY5.out.below (hA5.mono HS23.out.2))
  have hkept := hide (kept_any A c W.heap.size b w.heap.size W5 HL.out HNB.out ((HBY.out.below HB05.out).below (hA5.mono HB05.out.size)) (hl5.below hA5 hl5.lt))
  have HYX6 : Hid (Byt W5 W5.heap.size Ax L) := hide ((HYX5.out.below (hA5.mono HS23.out.1)).more (by have := HS23.out.1; have := hA5.size; omega))
  have HB06 : Hid (Below w.heap.size w W5) := hide (HB05.out.trans (hA5.mono HB05.out.size))
  have HX6 := hide hx6
  obtain ⟨sL, hsL⟩ : ∃ s, s = (⟨L.toArray⟩ : ByteArray) := ⟨_, rfl⟩
  rw [← hsL] at hkx hky
  clear hl5 hsL
  have hA5' := hide hA5
  clear hA5
  subst hW5
  by_cases hg : GE = 0
  · subst hg
    obtain ⟨hr1, hr2, hr3⟩ := rightT_of HGE.out.symm
    have hTg : T = gotT b := by rw [HT'.out]; unfold getT; rw [if_pos HGE.out.symm]
    have cput2 := hide (fun W => puttuple_any W Q T HQ.out)
    rw [show putB T = b by unfold putB; rw [hTg, hr1, hr2]; rfl, show putE T = 0 by unfold putE; rw [hTg, hr1]; rfl] at cput2
    clear hr1 hr2 hr3 hTg
    go_wp2_with (go_at_call 21; refine hkept.out.mono ?_; rintro e w6 ⟨rfl, rfl⟩)
    go_wp2_with fail
    refine (cput2.out _).mono ?_
    rintro e w6 ⟨⟨Az, cz, rfl, hyz, hlz, hnz⟩, hb6⟩
    have hkz := conv_any Az cz b w6.heap.size w6 hyz
    have hkb := conv_any A c b w.heap.size w6 ((HBY.out.below HB06.out).below (hb6.mono HB06.out.size))
    have HXW := hide (row_kept hb6 (Array.getElem?_eq_some_iff.1 HX6.out).1 HX6.out)
    have HBW : Hid (Below w.heap.size w w6) := hide (HB06.out.trans (hb6.mono HB06.out.size))
    have HYX7 : Hid (Byt w6 w6.heap.size Ax L) := hide ((HYX6.out.below hb6).more hb6.size)
    obtain ⟨sb, hsb⟩ : ∃ s, s = (⟨b.toArray⟩ : ByteArray) := ⟨_, rfl⟩
    rw [← hsb] at hkz hkb
    clear hsb hb6 hyz hp6 hq6 hx6 hkx hky hkept hne
    dsimp only
    by_cases hp : PE = 0
    · subst hp
      have hrt : rightT t = true := by
        have := HPE.out
        unfold putE at this
        cases hr : rightT t
        · rw [hr] at this; exact absurd this (by decide)
        · rfl
      have hLt : L = tupB t := by rw [HPL.out]; unfold putB; rw [hrt]; rfl
      obtain ⟨g1, g2⟩ := getT_tupB HT.out.ls HT.out.ld hrt
      have hl38 : L.length = 38 := by rw [hLt]; exact length_tupB HT.out.ls HT.out.ld
      have hli : ((L.length : Int) == 38) = true := by rw [hl38]; rfl
      have cg := hide (gettuple_any w6 w6.heap.size Ax cx L hlx (by omega) HYX7.out (Nat.le_refl _))
      rw [show getT L = t by rw [hLt]; exact g2, show getE L = 0 by rw [hLt]; exact g1] at cg
      clear hLt g1 g2 hl38 hrt
      go_wp2_with fail
      refine cg.out.mono ?_
      rintro e w7 ⟨⟨R, rfl, hR⟩, hb7⟩
      have hRs := hR.size
      have hRo : allOne R = true := hR.one
      have hR0 := hR.x0
      have hx7 := row_kept hb7 (by have := (Array.getElem?_eq_some_iff.1 HXW.out).1; exact this) HXW.out
      have LX7 : LtN w.heap.size w7.heap.size := (Array.getElem?_eq_some_iff.1 hx7).1
      have heq := fun W => eql_tu W R X t t hR HT.out
      rw [(sameT_iff t t).2 rfl] at heq
      have HB7 : Hid (Below w.heap.size w (w7.alloc (.cells R 62))) := hide ((HBW.out.trans (hb7.mono HBW.out.size)).alloc (by have := HBW.out.size; have := hb7.size; omega) _)
      clear cg hR hb7
      dsimp only
      go_wp2_with fail
      refine (HK.out _).mono ?_
      rintro e w8 ⟨rfl, hb8⟩
      dsimp only
      go_wp2
      go_ret
      exact ⟨rfl, HB7.out.trans (hb8.mono HB7.out.size)⟩
    · have hpi : (PE != 0) = true := by simpa using hp
      go_wp2_with fail
      refine (HK.out _).mono ?_
      rintro e w8 ⟨rfl, hb8⟩
      dsimp only
      go_wp2
      go_ret
      exact ⟨rfl, HBW.out.trans (hb8.mono HBW.out.size)⟩
  · have hgi : (GE == 0) = false := by simpa using hg
    have HXW := hide hx6
    have HBW := hide HB06.out
    by_cases hp : PE = 0
    · subst hp
      have hrt : rightT t = true := by
        have := HPE.out
        unfold putE at this
        cases hr : rightT t
        · rw [hr] at this; exact absurd this (by decide)
        · rfl
      have hLt : L = tupB t := by rw [HPL.out]; unfold putB; rw [hrt]; rfl
      obtain ⟨g1, g2⟩ := getT_tupB HT.out.ls HT.out.ld hrt
      have hl38 : L.length = 38 := by rw [hLt]; exact length_tupB HT.out.ls HT.out.ld
      have hli : ((L.length : Int) == 38) = true := by rw [hl38]; rfl
      have cg := hide (gettuple_any (w5.alloc (.cells Q 62)) (w5.alloc (.cells Q 62)).heap.size Ax cx L hlx (by omega) HYX6.out (Nat.le_refl _))
      rw [show getT L = t by rw [hLt]; exact g2, show getE L = 0 by rw [hLt]; exact g1] at cg
      clear hLt g1 g2 hl38 hrt
      go_wp2_with (go_at_call 21; refine hkept.out.mono ?_; rintro e w6 ⟨rfl, rfl⟩)
      refine cg.out.mono ?_
      rintro e w7 ⟨⟨R, rfl, hR⟩, hb7⟩
      have hRs := hR.size
      have hRo : allOne R = true := hR.one
      have hR0 := hR.x0
      have hx7 := row_kept hb7 (by have := (Array.getElem?_eq_some_iff.1 HXW.out).1; exact this) HXW.out
      have LX7 : LtN w.heap.size w7.heap.size := (Array.getElem?_eq_some_iff.1 hx7).1
      have heq := fun W => eql_tu W R X t t hR HT.out
      rw [(sameT_iff t t).2 rfl] at heq
      have HB7 : Hid (Below w.heap.size w (w7.alloc (.cells R 62))) := hide ((HBW.out.trans (hb7.mono HBW.out.size)).alloc (by have := HBW.out.size; have := hb7.size; omega) _)
      clear cg hR hb7
      dsimp only
      go_wp2_with fail
      refine (HK.out _).mono ?_
      rintro e w8 ⟨rfl, hb8⟩
      dsimp only
      go_wp2
      go_ret
      exact ⟨rfl, HB7.out.trans (hb8.mono HB7.out.size)⟩
    · have hpi : (PE != 0) = true := by simpa using hp
      go_wp2_with (go_at_call 21; refine hkept.out.mono ?_; rintro e w6 ⟨rfl, rfl⟩)
      refine (HK.out _).mono ?_
      rintro e w8 ⟨rfl, hb8⟩
      dsimp only
      go_wp2
      go_ret
      exact ⟨rfl, HBW.out.trans (hb8.mono HBW.out.size)⟩
end Go.Proofs.Ytgbmamahkpkdfaa
