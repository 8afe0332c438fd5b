import Derived.Test.YtihakjcccbionaaGreatDoorMgy
import Derived.Test.YtihakjcccbionaaGreatDoorMgv
import Derived.Test.YtihakjcccbionaaGreatDoorMjv
import Derived.Test.YtihakjcccbionaaGreatDoorMku
import Derived.Test.YtihakjcccbionaaGreatDoorGnm
import Derived.Test.YtihakjcccbionaaGreatDoorMlt
import Derived.Test.YtihakjcccbionaaGreatDoorMgk
import Derived.Test.YtihakjcccbionaaGreatDoorMgr
import Derived.Deep.RegionHeld3
section
/-
  A frame of a tunnel, taken apart again: mathematics.
-/
namespace Go.Proofs.YtihakjcccbionaaGreatDoor
open Go.RowKit
set_option maxRecDepth 100000
set_option linter.unusedVariables false
set_option linter.unusedSimpArgs false

theorem segE_laidW {h : Ip} {s : Sg} {O D : List UInt8} (he : putE h s = 0) (ls : h.sb.length = 16) (ld : h.db.length = 16) (hO : O.length = s.no) (hD : D.length = s.nd) (hq : s.q < 4294967296) (hk : s.k < 4294967296) : segE h (segB h s O D) = 0 := by
  rw [segE_of he rfl rfl ls ld hO hD hq hk, if_neg]
  rintro ⟨hn, h1⟩
  exact h1 (sumN_told he hn ls ld hO hD)
theorem putD_zeroW {T : TuD} (h : (putD T).2 = 0) : rightD T = true ∧ sizeD T.l ≤ 252 ∧ (putD T).1 = bytD T := by
  unfold putD at h ⊢
  by_cases h1 : rightD T = false
  · rw [if_pos h1] at h; cases h
  · rw [if_neg h1] at h ⊢
    by_cases h2 : 252 < sizeD T.l
    · rw [if_pos h2] at h; cases h
    · rw [if_neg h2] at h ⊢
      by_cases h3 : (bytD T).length ≤ 65535
      · rw [if_pos h3]; exact ⟨by simpa using h1, by omega, rfl⟩
      · rw [if_neg h3] at h; cases h
/-- the parts of a frame. -/
theorem wrapG_parts {p : PaG} {T : TuD} (h0 : (wrapG p T).2 = 0) : ∃ L Dg, (putD T).2 = 0 ∧ L = (putD T).1 ∧ Dg = segB (hG p none 0 0) (sG p none L.length 0) [] L ∧ putE (hG p none 0 0) (sG p none L.length 0) = 0 ∧ pktE (hG p none Dg.length 0) = 0 ∧ (wrapG p T).1 = pktB (hG p none Dg.length 0) [] Dg ∧ ((wrapG p T).1.length : Int) ≤ p.mtu ∧ p.mtu ≤ 65535 := by
  by_cases h1 : (putD T).2 ≠ 0
  · rw [wrapG_put p T h1] at h0
    exact absurd h0 (by simpa using h1)
  · by_cases h2 : p.mtu < 1 ∨ 65535 < p.mtu
    · rw [wrapG_mtu p T h1 h2] at h0; exact absurd h0 (by decide)
    · obtain ⟨L, hL⟩ : ∃ L, L = (putD T).1 := ⟨_, rfl⟩
      obtain ⟨Dg, hD⟩ : ∃ D, D = putB (hG p none 0 0) (sG p none L.length 0) [] L := ⟨_, rfl⟩
      obtain ⟨B, hB⟩ : ∃ B, B = pktB (hG p none Dg.length 0) [] Dg := ⟨_, rfl⟩
      have e := wrapG_on p T h1 h2 L Dg B _ _ hL hD rfl hB rfl
      rw [e] at h0 ⊢
      by_cases h7 : putE (hG p none 0 0) (sG p none L.length 0) ≠ 0
      · rw [if_pos h7] at h0; exact absurd h0 h7
      · rw [if_neg h7] at h0 ⊢
        by_cases h9 : pktE (hG p none Dg.length 0) ≠ 0
        · rw [if_pos h9] at h0; exact absurd h0 h9
        · rw [if_neg h9] at h0 ⊢
          by_cases hm : p.mtu < (B.length : Int)
          · rw [if_pos hm] at h0; exact absurd h0 (by decide)
          · rw [if_neg hm]
            have h7' : putE (hG p none 0 0) (sG p none L.length 0) = 0 := by simpa using h7
            refine ⟨L, Dg, by simpa using h1, hL, ?_, h7', by simpa using h9, hB, by show (B.length : Int) ≤ p.mtu; omega, by omega⟩
            rw [hD]; unfold putB; rw [if_pos h7']
/-- a frame is taken apart into what it was made of. -/
theorem unw_wrap {p : PaG} {T : TuD} (ls : p.sb.length = 16) (ld : p.db.length = 16) (h0 : (wrapG p T).2 = 0) : unwG (wrapG p T).1 = (⟨p.sv, p.sb, p.dv, p.db, p.port, p.ttl, 0⟩, T, 0) ∧ ((wrapG p T).1.length : Int) ≤ p.mtu ∧ p.mtu ≤ 65535 := by
  obtain ⟨L, S, hz, hL, hS, hm, he, hB, hmtu, hm65⟩ := wrapG_parts h0
  obtain ⟨hrt, hsz, hbyt⟩ := putD_zeroW hz
  refine ⟨?_, hmtu, hm65⟩
  obtain ⟨H, hHH⟩ : ∃ H, H = hG p none S.length 0 := ⟨_, rfl⟩
  have eHls : H.sb.length = 16 := by rw [hHH]; exact ls
  have eHld : H.db.length = 16 := by rw [hHH]; exact ld
  have eHo : ([] : List UInt8).length = H.no := by rw [hHH]; rfl
  have eHd : S.length = H.nd := by rw [hHH]; rfl
  rw [← hHH] at he hB
  have hlen := pk_len he eHls eHld eHo eHd
  have hne : pktB H [] S ≠ [] := fun e => by
    rw [e] at hlen
    unfold sizeN at hlen
    split at hlen <;> simp at hlen <;> omega
  have hp0 : pkE (pktB H [] S) = 0 := by
    have e := pk_on (T := []) he eHls eHld eHo eHd
    rw [List.append_nil] at e
    exact e
  have hkd : pkH (pktB H [] S) = othH H none 0 none 0 ∧ pkD (pktB H [] S) = S := by
    cases hv : H.v
    · have hlP := len_hd4 H [] eHls eHld
      have h4 := first4 he hv (l := pktB H [] S) (by rw [pkt4_eq he hv eHls eHld eHo eHd, pre_app _ _ _ (by omega)]) hne
      obtain ⟨b1, -, b3⟩ := back4 he hv eHls eHld eHo eHd none none 0 0
      unfold pkH pkD
      rw [if_pos h4, if_pos h4]
      exact ⟨b1, b3⟩
    · have hlP := len_hd6 H eHls eHld
      have h6 := first6 he hv (l := pktB H [] S) (by rw [pkt6_eq he hv eHls eHld eHd, pre_app _ _ _ (by omega)]) hne
      obtain ⟨b1, b3⟩ := back6 (O := []) he hv eHls eHld eHd none 0
      unfold pkH pkD
      rw [if_neg (by omega), if_neg (by omega)]
      exact ⟨b1, b3⟩
  have hs0 : segE (hG p none 0 0) S = 0 := by
    rw [hS]
    exact segE_laidW hm ls ld rfl rfl (by show (0 : Nat) < _; decide) (by show (0 : Nat) < _; decide)
  obtain ⟨⟨ao', co', hg, -⟩, -, hdat⟩ := gotS_of (h := hG p none 0 0) (s := sG p none L.length 0) (O := []) (D := L) hm rfl rfl (by show (0 : Nat) < _; decide) (by show (0 : Nat) < _; decide) none none 0 0
  rw [← hS] at hg hdat
  have hG' : seenG (pktB H [] S) = gotS (hG p none 0 0) S none 0 none 0 := by
    unfold seenG
    rw [hkd.1, hkd.2, hHH]
    rfl
  have hsE : seenE (pktB H [] S) = 0 := by
    unfold seenE
    rw [if_neg (by rw [hp0]; simp), hkd.1, hkd.2, hHH]
    exact hs0
  have hD : unwD (pktB H [] S) = bytD T := by
    unfold unwD
    rw [hkd.1, hkd.2, hHH, datS_p (h := othH (hG p none S.length 0) none 0 none 0) (h' := hG p none 0 0) S rfl, hdat, hL, hbyt]
  have hPar : parD (bytD T) = (T, 0) := parD_byt hrt hsz
  rw [hB]
  unfold unwG
  rw [if_neg (by rw [hsE]; simp), hG', hg, hD, hPar, if_neg (by show ¬ ((17 : Int) ≠ 17 ∨ (6081 : Int) ≠ 6081); decide), if_neg (by simp)]
  have hP : unwP (pktB H [] S) = ⟨p.sv, p.sb, p.dv, p.db, p.port, p.ttl, 0⟩ := by
    unfold unwP
    rw [hG', hg, hkd.1, hHH]
    rfl
  rw [hP]
end Go.Proofs.YtihakjcccbionaaGreatDoor

end
section
/-
  The walks of the document's own Wrap, and of both Kinds.
-/
namespace Go.Proofs.YtihakjcccbionaaGreatDoor
open Go.RowKit
set_option maxRecDepth 100000
set_option linter.unusedVariables false
set_option linter.unusedSimpArgs false
attribute [local go_sem ↓] exec_span exec_put exec_build heap_alloc_new heap_old
attribute [local go_sem] spanQ_ptr spanC_some heap_of_drew heap_of_drewN putAt_ptr putOk_ptr oldOk_some World.setRow_alloc_new rs_rtunG rs_ad rs_rip rs_rseg rs_arr rs_gwpath

theorem rbuilt_hGA (v s d : Bool) (t : Int) (b0 b1 b2 b3 b4 b5 b6 b7 b8 b9 b10 b11 b12 b13 b14 b15 c0 c1 c2 c3 c4 c5 c6 c7 c8 c9 c10 c11 c12 c13 c14 c15 : UInt8) :
    Tryz.prog.built 62 [(0, .bool v), (1, .agg (adL s [b0, b1, b2, b3, b4, b5, b6, b7, b8, b9, b10, b11, b12, b13, b14, b15]).toArray), (2, .agg (adL d [c0, c1, c2, c3, c4, c5, c6, c7, c8, c9, c10, c11, c12, c13, c14, c15]).toArray), (3, .int .i64 17), (4, .int .i64 t)] = some (ipL ⟨v, s, [b0, b1, b2, b3, b4, b5, b6, b7, b8, b9, b10, b11, b12, b13, b14, b15], d, [c0, c1, c2, c3, c4, c5, c6, c7, c8, c9, c10, c11, c12, c13, c14, c15], 17, t, 0, 0, false, 0, none, 0, 0, none, 0, 0⟩).toArray := by kernel_rfl
theorem rbuilt_hG (p : PaG) (ls : p.sb.length = 16) (ld : p.db.length = 16) : Tryz.prog.built 62 [(0, .bool p.sv), (1, .agg (adL p.sv p.sb).toArray), (2, .agg (adL p.dv p.db).toArray), (3, .int .i64 17), (4, .int .i64 p.ttl)] = some (ipL (hG p none 0 0)).toArray := by
  obtain ⟨sv, sb, dv, db, po, t, m⟩ := p
  match sb, db, ls, ld with
  | [_, _, _, _, _, _, _, _, _, _, _, _, _, _, _, _], [_, _, _, _, _, _, _, _, _, _, _, _, _, _, _, _], _, _ => exact rbuilt_hGA _ _ _ _ _ _ _ _ _ _ _ _ _ _ _ _ _ _ _ _ _ _ _ _ _ _ _ _ _ _ _ _ _ _ _ _
theorem rbuilt_sG (p : PaG) (A : Option Addr) (n c : Nat) : Tryz.prog.built 64 [(0, .int .i64 17), (1, .int .i64 p.port), (2, .int .i64 6081), (10, .slice A n c)] = some (sgL (sG p A n c)).toArray := by kernel_rfl
set_option maxHeartbeats 8000000 in
theorem refwrapG_any (w : World) (P X : Array Value) (p : PaG) (T : TuD) (hp : PaV P p) (h : TuG w X T) (hl : T.l.length ≤ 1048576) (hD : T.D.length ≤ 140737488355320) (hd : ∀ x ∈ T.l, x.2.2.length ≤ 140737488355320) :
    Calls Tryz.prog 7 #[.agg P, .agg X] w fun e w' => ∃ A c, e = .returned (.tuple #[.slice A (wrapG p T).1.length c, .int .i64 (wrapG p T).2]) ∧ OwnB w' w.heap.size (.slice A (wrapG p T).1.length c) (wrapG p T).1 ∧ Below w.heap.size w w' := by
  have hDD := hD
  clear hD
  obtain ⟨R, hR⟩ : ∃ R, R = wrapG p T := ⟨_, rfl⟩
  rw [← hR]
  have HR := hide hR
  have HF : Hid (∀ (w' : World) (E : Int), R = ([], E) → Below w.heap.size w w' → ∃ A c, Ending.returned (.tuple #[.slice none 0 0, .int .i64 E]) = .returned (.tuple #[.slice A R.1.length c, .int .i64 R.2]) ∧ OwnB w' w.heap.size (.slice A R.1.length c) R.1 ∧ Below w.heap.size w w') := hide (fun w' E e b => by rw [e]; exact ⟨none, 0, rfl, OwnB.nil _ _, b⟩)
  obtain ⟨W0, hW0, r0, z0, b0⟩ := alloc_tl w (.cells P 26)
  obtain ⟨W, hW, r1, z1, b1⟩ := alloc_tl W0 (.cells X 30)
  rw [z0] at r1
  have r0' := (b1.block w.heap.size (by omega)).trans r0
  have bW : Below w.heap.size w W := b0.trans (b1.mono (by omega))
  have hps := hp.size
  obtain ⟨hxs, hxo, hxx⟩ := tuG_size h
  obtain ⟨S, hS⟩ : ∃ S, S = (adL p.sv p.sb).toArray := ⟨_, rfl⟩
  obtain ⟨D, hD⟩ : ∃ D, D = (adL p.dv p.db).toArray := ⟨_, rfl⟩
  have hsrc := hp.src
  have hdst := hp.dst
  rw [← hS] at hsrc
  rw [← hD] at hdst
  obtain ⟨H, hH⟩ : ∃ H, H = (ipL (hG p none 0 0)).toArray := ⟨_, rfl⟩
  have hbh := rbuilt_hG p hp.ls hp.ld
  rw [← hS, ← hD, ← hH] at hbh
  have VH : IpV H (hG p none 0 0) := ⟨hH, hp.ls, hp.ld⟩
  have hHs := VH.size
  have hHx := VH.x0
  have hHo := VH.one
  have HVH := hide VH
  have HPV := hide hp
  obtain ⟨pv, hpv⟩ : ∃ x, x = p.sv := ⟨_, rfl⟩
  obtain ⟨po, hpo⟩ : ∃ x, x = p.port := ⟨_, rfl⟩
  obtain ⟨pt, hpt⟩ : ∃ x, x = p.ttl := ⟨_, rfl⟩
  obtain ⟨pm, hpm⟩ : ∃ x, x = p.mtu := ⟨_, rfl⟩
  rw [← hpv, ← hpt] at hbh
  have HC := hide (fun (W1 : World) (b : Below W.heap.size W W1) => (by have r := (b.block w.heap.size (by omega)).trans r0'; have c := hp.cells r; rw [← hpv, ← hpo, ← hpt, ← hpm] at c; exact ⟨r, (b.block (w.heap.size + 1) (by omega)).trans r1, c⟩ : W1.heap[w.heap.size]? = some (.cells P 26 (0, 0)) ∧ W1.heap[w.heap.size + 1]? = some (.cells X 30 (0, 0)) ∧ W1.cell? ⟨w.heap.size, 0, none⟩ = some (.bool pv) ∧ W1.cell? ⟨w.heap.size, 34, none⟩ = some (.int .i64 po) ∧ W1.cell? ⟨w.heap.size, 35, none⟩ = some (.int .i64 pt) ∧ W1.cell? ⟨w.heap.size, 36, none⟩ = some (.int .i64 pm)))
  have KP := hide (refputG_any W X T (h.below bW) hl hDD hd)
  obtain ⟨L, hL⟩ : ∃ L, L = (putD T).1 := ⟨_, rfl⟩
  obtain ⟨E, hE⟩ : ∃ E, E = (putD T).2 := ⟨_, rfl⟩
  rw [← hL, ← hE] at KP
  have HLE := hide (And.intro hL hE)
  have HPO := hide (And.intro hpv (And.intro hpo (And.intro hpt hpm)))
  have HB := hide bW
  have HW := hide (And.intro hW0 hW)
  obtain ⟨q0, q1, d0, d34, d35, d36⟩ := HC.out W (Below.refl _ _)
  clear hR hW0 hW r0 r1 r0' z0 z1 b0 b1 bW hS hD hH VH hp h hl hDD hd hL hE hpv hpo hpt hpm
  go_enter Tryz.func7, Tryz.ntmps7
  go_upto_region 1 with (fail)
  change Code.wp _ _ _ _ ((w.alloc (.cells P 26)).alloc (.cells X 30))
  rw [HW.out.1, HW.out.2]
  go_wp2_with fail
  refine KP.out.mono ?_
  rintro e w2 ⟨A2, c2, rfl, o2, b2⟩
  have B2 := hide b2
  have O2 := hide o2
  obtain ⟨q2, -, e0, e34, e35, e36⟩ := HC.out w2 b2
  clear q0 q1 d0 d34 d35 d36 o2 b2
  dsimp only
  by_cases hE0 : E = 0
  · subst hE0
    have he0 : ¬ (putD T).2 ≠ 0 := by rw [← HLE.out.2]; simp
    have HE0 := hide he0
    clear he0
    by_cases hm : pm < 1 ∨ 65535 < pm
    · have hR1 := hide (HR.out.trans (wrapG_mtu p T HE0.out (by rw [← HPO.out.2.2.2]; exact hm)))
      rcases hm with hm | hm
      · go_wp2
        go_ret2
        exact HF.out _ _ hR1.out (HB.out.trans (B2.out.mono HB.out.size))
      · have hm1 : ¬ pm < 1 := by omega
        go_wp2
        go_ret2
        exact HF.out _ _ hR1.out (HB.out.trans (B2.out.mono HB.out.size))
    · have hm1 : ¬ pm < 1 := by omega
      have hm2 : ¬ pm > 65535 := by omega
      have HM := hide hm
      clear hm
      go_upto_region 7 with (fail)
      obtain ⟨W3, hW3, r3, z3, b3⟩ := alloc_tl w2 (.cells H 62)
      rw [hW3]
      obtain ⟨g, hg⟩ : ∃ g, g = w2.heap.size := ⟨_, rfl⟩
      rw [← hg] at r3 ⊢
      obtain ⟨-, -, -, f34, f35, f36⟩ := HC.out W3 (B2.out.trans (b3.mono B2.out.size))
      have B3 : Hid (Below W.heap.size W W3) := hide (B2.out.trans (b3.mono B2.out.size))
      have HG3 : Hid (g < W3.heap.size ∧ W.heap.size ≤ g) := hide ⟨by omega, by rw [hg]; exact B2.out.size⟩
      obtain ⟨Ax, cx, ex, hlc, hby, hnil, -⟩ := O2.out.shape
      cases ex
      have hLl := putD_len T
      rw [← HLE.out.1] at hLl
      obtain ⟨V, hV⟩ : ∃ V, V = (sgL (sG p A2 L.length c2)).toArray := ⟨_, rfl⟩
      have hbv := rbuilt_sG p A2 L.length c2
      rw [← hV, ← HPO.out.2.1] at hbv
      have KS := refputS_any W3 H V (hG p none 0 0) (sG p A2 L.length c2) HVH.out ⟨hV, by show 0 < 4294967296; decide, by show 0 < 4294967296; decide⟩ [] L (Byt.nil _ _ _) rfl (fun _ => rfl) ((hby.below b3).more b3.size) rfl hnil (by show L.length ≤ _; omega)
      obtain ⟨Dg, hDg⟩ : ∃ D, D = putB (hG p none 0 0) (sG p A2 L.length c2) [] L := ⟨_, rfl⟩
      obtain ⟨E7, hE7⟩ : ∃ D, D = putE (hG p none 0 0) (sG p A2 L.length c2) := ⟨_, rfl⟩
      rw [← hDg, ← hE7] at KS
      have HD7 : Hid (Dg = putB (hG p none 0 0) (sG p none L.length 0) [] L ∧ E7 = putE (hG p none 0 0) (sG p none L.length 0)) := hide ⟨hDg, hE7⟩
      have HDL : Hid (Dg.length ≤ 65535) := hide (by rw [hDg]; exact putB_len _ _ _ _ rfl rfl)
      have KS := hide KS
      clear hW3 z3 b3 hg hlc hby hnil hLl hV hDg hE7 q2 e0 e34 e35 e36
      go_wp2_with fail
      refine KS.out.mono ?_
      rintro e w7 ⟨A7, c7, rfl, o7, b7⟩
      have r7 := (b7.block g HG3.out.1).trans r3
      have R7 := hide r7
      have O7 := hide o7
      have B7 : Hid (Below W.heap.size W w7) := hide (B3.out.trans (b7.mono B3.out.size))
      clear r3 f34 f35 f36 b7 o7 r7 KS
      dsimp only
      by_cases hE7 : E7 = 0
      · have hE7z := hE7
        clear hE7z
        have k42 := (HVH.out.cells R7.out).c42
        have f42 := frozen_of_row _ g 42 _ _ R7.out
        have h1 := heap_setCell_same w7 g 42 _ _ (.slice A7 Dg.length c7) R7.out
        rw [HVH.out.eq, ip_set42 _ HVH.out.ls HVH.out.ld] at h1
        obtain ⟨W8, hW8⟩ : ∃ W, W = w7.setCell ⟨g, 42, none⟩ (.slice A7 Dg.length c7) := ⟨_, rfl⟩
        have gs8 : w7.grownBy W8 (some g) := by rw [hW8]; exact grown_set w7 g 42 _
        rw [← hW8] at h1
        obtain ⟨H2, hH2⟩ : ∃ H, H = (ipL (hG p A7 Dg.length c7)).toArray := ⟨_, rfl⟩
        have r8 : W8.heap[g]? = some (.cells H2 62 (0, 0)) := by rw [hH2]; exact h1
        have V2 : IpV H2 (hG p A7 Dg.length c7) := ⟨hH2, HPV.out.ls, HPV.out.ld⟩
        have h2s := V2.size
        have h2x := V2.x0
        have B8 : Hid (Below W.heap.size W W8) := hide (B7.out.grown gs8 B7.out.size (fun k e => by cases e; exact HG3.out.2))
        have o8 : OwnB W8 W3.heap.size (.slice A7 Dg.length c7) Dg := World.ownsRow.kept O7.out gs8 (by
          by_cases e : (Value.slice A7 Dg.length c7).ownBlock = some g
          · have h5 := (World.ownsRow.lt O7.out g e).1; have h6 := HG3.out.1; omega
          · exact .inr e)
        have O8 := hide o8
        have HV2 := hide V2
        have hW8' := hide hW8
        subst hE7
        clear h1 gs8 o8 V2 hH2
        go_upto_region 11 with (fail)
        rw [← hW8'.out]
        clear k42 f42 hW8
        obtain ⟨Ay, cy, ey, hlc8, hby8, hnil8, -⟩ := O8.out.shape
        cases ey
        have KH := refputH_any W8 H2 (hG p A7 Dg.length c7) [] Dg ⟨HV2.out, Byt.nil _ _ _, rfl, Nat.le_refl _, Nat.zero_le _, fun _ => rfl, hby8, rfl, hlc8, (by have := HDL.out; show Dg.length ≤ _; omega), hnil8⟩
        obtain ⟨B9, hB9⟩ : ∃ D, D = pktB (hG p A7 Dg.length c7) [] Dg := ⟨_, rfl⟩
        obtain ⟨E9, hE9⟩ : ∃ D, D = pktE (hG p A7 Dg.length c7) := ⟨_, rfl⟩
        rw [← hB9, ← hE9] at KH
        have HW9 := hide (wrapG_on p T HE0.out (by rw [← HPO.out.2.2.2]; exact HM.out) L Dg B9 _ E9 HLE.out.1 HD7.out.1 HD7.out.2 hB9 hE9)
        have KH := hide KH
        clear hby8 hB9 hE9 hlc8 hnil8
        go_wp2_with fail
        refine KH.out.mono ?_
        rintro e w9 ⟨A9, c9, rfl, o9, b9⟩
        have B9' : Hid (Below W.heap.size W w9) := hide (B8.out.trans (b9.mono B8.out.size))
        obtain ⟨-, -, -, -, -, k36⟩ := HC.out w9 B9'.out
        have O9 : Hid (OwnB w9 w.heap.size (.slice A9 B9.length c9) B9) := hide (by
          refine ⟨o9.1, o9.2.imp id fun ⟨gg, cap, cur, h1, h2, h3⟩ => ⟨gg, cap, cur, h1, ?_, h3⟩⟩
          have h4 := B8.out.size; have h5 := HB.out.size; omega)
        have BF : Hid (Below w.heap.size w w9) := hide (HB.out.trans (B9'.out.mono HB.out.size))
        have hR9 := HR.out.trans HW9.out
        rw [if_neg (by simp), ← HPO.out.2.2.2] at hR9
        have HR9 := hide hR9
        clear o9 b9 hR9 KH r8
        dsimp only
        by_cases hE9 : E9 = 0
        · subst hE9
          by_cases hbig : (B9.length : Int) > pm
          · have hR1 := hide (HR9.out.trans (by rw [if_neg (by simp), if_pos (by omega)]))
            go_wp2
            go_ret2
            exact HF.out _ _ hR1.out BF.out
          · have hR1 := hide (HR9.out.trans (by rw [if_neg (by simp), if_neg (by omega)]))
            go_wp2
            go_ret2
            rw [hR1.out]
            exact ⟨A9, c9, rfl, O9.out, BF.out⟩
        · have hEn : (E9 != 0) = true := by simpa using hE9
          have hR1 := hide (HR9.out.trans (by rw [if_pos hE9]))
          clear hE9
          go_wp2
          go_ret2
          exact HF.out _ _ hR1.out BF.out
      · have hEn : (E7 != 0) = true := by simpa using hE7
        have hR1 := hide (HR.out.trans ((wrapG_on p T HE0.out (by rw [← HPO.out.2.2.2]; exact HM.out) L Dg _ E7 _ HLE.out.1 HD7.out.1 HD7.out.2 rfl rfl).trans (by rw [if_pos hE7])))
        clear hE7
        go_wp2
        go_ret2
        exact HF.out _ _ hR1.out (HB.out.trans (B7.out.mono HB.out.size))
  · have hEn : ((E : Int) != 0) = true := by simp; exact hE0
    have hR1 := hide (HR.out.trans (wrapG_put p T (by rw [← HLE.out.2]; exact hE0)))
    rw [← HLE.out.2] at hR1
    clear hE0
    go_wp2
    go_ret2
    exact HF.out _ _ hR1.out (HB.out.trans (B2.out.mono HB.out.size))
/-- of what is within, by its first byte. -/
def kindD (D : List UInt8) : Int := if D.length = 0 then 0 else if (D.getD 0 0).toNat / 16 = 4 then 2048 else if (D.getD 0 0).toNat / 16 = 6 then 34525 else 0
set_option maxHeartbeats 2000000 in
theorem refkind_any (w : World) (A : Option Addr) (c : Nat) (D : List UInt8) (hb : Byt w w.heap.size A D) :
    Calls Tryz.prog 9 #[.slice A D.length c] w fun e w' => e = .returned (.int .i64 (kindD D)) ∧ w = w' := by
  obtain ⟨R, hR⟩ : ∃ R, R = kindD D := ⟨_, rfl⟩
  rw [← hR]
  unfold kindD at hR
  by_cases h0 : D.length = 0
  · rw [if_pos h0] at hR
    rw [hR, h0]
    clear hb hR h0
    go_enter Tryz.func9, Tryz.ntmps9
    go_wp2
    go_ret
    exact ⟨rfl, rfl⟩
  · rw [if_neg h0] at hR
    obtain ⟨b, off, rfl, -, hc⟩ := hb (by omega)
    have c0 := hc 0 (by omega)
    have e0 : D.getD 0 0 = D[0] := by rw [List.getD_eq_getElem?_getD, List.getElem?_eq_getElem (by omega)]; rfl
    rw [e0] at hR
    have c0 : w.cell? ⟨b, off, none⟩ = some (.int .u8 (D[0].toNat : Int)) := c0
    obtain ⟨x, hx⟩ : ∃ x, x = D[0].toNat := ⟨_, rfl⟩
    have hx8 : x < 256 := by rw [hx]; exact D[0].toNat_lt
    rw [← hx] at c0 hR
    obtain ⟨n, hn⟩ : ∃ n, n = D.length := ⟨_, rfl⟩
    rw [← hn] at h0 ⊢
    have hgt : (n : Int) > 0 := by omega
    have hlt : (0 : Int) < (n : Int) := by omega
    obtain ⟨q, hq⟩ : ∃ q, q = x / 16 := ⟨_, rfl⟩
    have hd : (x : Int) / 16 = (q : Int) := by omega
    have hw : IntKind.u8.wrap (q : Int) = (q : Int) := IntWalk.u8_in _ (by omega)
    rw [← hq] at hR
    by_cases h4 : q = 4
    · rw [if_pos h4] at hR
      have f4 : ((q : Int) == 4) = true := by rw [h4]; rfl
      rw [hR]
      clear hR hb hc e0 hx hn hq h4 h0 hx8
      go_enter Tryz.func9, Tryz.ntmps9
      go_wp2
      go_ret
      exact ⟨rfl, rfl⟩
    · rw [if_neg h4] at hR
      have f4 : ((q : Int) == 4) = false := by simp; omega
      by_cases h6 : q = 6
      · rw [if_pos h6] at hR
        have f6 : ((q : Int) == 6) = true := by rw [h6]; rfl
        rw [hR]
        clear hR hb hc e0 hx hn hq h4 h0 h6 hx8
        go_enter Tryz.func9, Tryz.ntmps9
        go_wp2
        go_ret
        exact ⟨rfl, rfl⟩
      · rw [if_neg h6] at hR
        have f6 : ((q : Int) == 6) = false := by simp; omega
        rw [hR]
        clear hR hb hc e0 hx hn hq h4 h0 h6 hx8
        go_enter Tryz.func9, Tryz.ntmps9
        go_wp2
        go_ret
        exact ⟨rfl, rfl⟩
/-- the table of kinds, as the program's text lays it. -/
def KindsAt (w : World) : Prop := ∀ q : Nat, q < 16 → w.cell? ⟨0, q, none⟩ = some (.int .i64 (if q = 4 then 2048 else if q = 6 then 34525 else 0))
theorem KindsAt.below {w w' : World} (h : KindsAt w) (hb : Below w.heap.size w w') : KindsAt w' := fun q hq => by
  have h1 := h q hq
  have hlt : (0 : Nat) < w.heap.size := by
    rcases Nat.lt_or_ge 0 w.heap.size with h' | h'
    · exact h'
    · exfalso
      unfold World.cell? at h1
      rw [Array.getElem?_eq_none h'] at h1
      cases h1
  exact (World.cell?_of_block (a := ⟨0, q, none⟩) (hb.block _ hlt)).trans h1
set_option maxHeartbeats 2000000 in
theorem genkind_any (w : World) (A : Option Addr) (c : Nat) (D : List UInt8) (hb : Byt w w.heap.size A D) (hk : KindsAt w) :
    Calls Tryz.prog 8 #[.slice A D.length c] w fun e w' => e = .returned (.int .i64 (kindD D)) ∧ w = w' := by
  obtain ⟨R, hR⟩ : ∃ R, R = kindD D := ⟨_, rfl⟩
  rw [← hR]
  unfold kindD at hR
  by_cases h0 : D.length = 0
  · rw [if_pos h0] at hR
    rw [hR, h0]
    clear hb hR h0 hk
    go_enter Tryz.func8, Tryz.ntmps8
    go_wp2
    go_ret
    exact ⟨rfl, rfl⟩
  · rw [if_neg h0] at hR
    obtain ⟨b, off, rfl, -, hc⟩ := hb (by omega)
    have e0 : D.getD 0 0 = D[0] := by rw [List.getD_eq_getElem?_getD, List.getElem?_eq_getElem (by omega)]; rfl
    rw [e0] at hR
    have c0 : w.cell? ⟨b, off, none⟩ = some (.int .u8 (D[0].toNat : Int)) := hc 0 (by omega)
    obtain ⟨x, hx⟩ : ∃ x, x = D[0].toNat := ⟨_, rfl⟩
    have hx8 : x < 256 := by rw [hx]; exact D[0].toNat_lt
    rw [← hx] at c0 hR
    obtain ⟨n, hn⟩ : ∃ n, n = D.length := ⟨_, rfl⟩
    rw [← hn] at h0 ⊢
    have hne : ((n : Int) == 0) = false := by simp; omega
    have hlt : (0 : Int) < (n : Int) := by omega
    obtain ⟨q, hq⟩ : ∃ q, q = x / 16 := ⟨_, rfl⟩
    have hd : (x : Int) / 16 = (q : Int) := by omega
    have hw : IntKind.u8.wrap (q : Int) = (q : Int) := IntWalk.u8_in _ (by omega)
    have hq16 : (q : Int) < 16 := by omega
    have hk0 := hk q (by omega)
    rw [← hq] at hR
    rw [← hR] at hk0
    clear hR hb hc e0 hx hn hq h0 hx8 hk
    go_enter Tryz.func8, Tryz.ntmps8
    go_wp2
    go_ret
    exact ⟨rfl, rfl⟩
end Go.Proofs.YtihakjcccbionaaGreatDoor

end
section
/-
  The walk of GeneveWraps.
-/
namespace Go.Proofs.YtihakjcccbionaaGreatDoor
open Go.RowKit
set_option maxRecDepth 100000
set_option linter.unusedVariables false
set_option linter.unusedSimpArgs false
attribute [local go_sem ↓] exec_span exec_put exec_build heap_alloc_new heap_old heap_alloc_drew
attribute [local go_sem] spanQ_ptr spanC_some heap_of_drew heap_of_drewN rs_arr rs_ad rs_tunG rs_rtunG rs_gpath rs_gwpath putAt_ptr putOk_ptr oldOk_some World.setRow_alloc_new setRow_drew

theorem OwnB.cvW {w : World} {base : Nat} {A : Option Addr} {c : Nat} {l : List UInt8} (h : OwnB w base (.slice A l.length c) l) : (convert 28 9 (.slice A l.length c)).run Tryz.prog w = .ok (.string ⟨l.toArray⟩) w := by
  obtain ⟨A', c', e, hlc, hby, -⟩ := h.shape
  cases e
  exact hby.cvG
theorem OwnB.onW {w w' : World} {base : Nat} {v : Value} {l : List UInt8} (h : OwnB w base v l) (b : Below w.heap.size w w') : OwnB w' base v l := World.ownsRow.kept h (grown_of_below b) (Classical.em _)
/-- what a tunnel may have at most. -/
structure LitW (T : TuD) : Prop where
  l : T.l.length ≤ 1048576
  s : sizeD T.l ≤ 8388608
  D : T.D.length ≤ 1048576
  d : ∀ x ∈ T.l, x.2.2.length ≤ 1048576
theorem below_set36 {w W W' : World} {g : Nat} (h : Below w.heap.size w W) (hg : W.grownBy W' (some g)) (hw : w.heap.size ≤ g) : Below w.heap.size w W' := h.grown hg h.size (fun k e => by cases e; exact hw)

set_option maxHeartbeats 8000000 in
theorem geneveWraps_any (w : World) (P X : Array Value) (p : PaG) (T : TuD) (hp : PaV P p) (h : TuG w X T) (ht : LitW T) (hk : KindsAt w) :
    Calls Tryz.prog 3 #[.agg P, .agg X] w fun e w' => e = .returned (.bool true) ∧ Below w.heap.size w w' := by
  obtain ⟨W0, hW0, r0, z0, b0⟩ := alloc_tl w (.cells P 26)
  obtain ⟨W, hW, r1, z1, b1⟩ := alloc_tl W0 (.cells X 30)
  rw [z0] at r1
  have r0' := (b1.block w.heap.size (by omega)).trans r0
  have bW : Below w.heap.size w W := b0.trans (b1.mono (by omega))
  obtain ⟨hxs, hxo, hxx⟩ := tuG_size h
  have hps := hp.size
  have hpo := hp.one
  have hp0 := hp.x0
  have HT := hide ht
  have HH := hide h
  have HPV := hide hp
  have HKN := hide hk
  have KG := hide (fun (W1 : World) (b : Below w.heap.size w W1) => givenG_any W1 X T (h.below b) ht.l (Nat.le_trans ht.D (by decide)) (fun x hx => Nat.le_trans (ht.d x hx) (by decide)))
  have HW := hide (And.intro hW0 hW)
  have HB := hide bW
  have HR := hide (And.intro r0' r1)
  have HKK := hide (fun (W1 : World) (b : Below W.heap.size W W1) => (⟨(b.block w.heap.size (Array.getElem?_eq_some_iff.1 HR.out.1).1).trans HR.out.1, (b.block (w.heap.size + 1) (Array.getElem?_eq_some_iff.1 HR.out.2).1).trans HR.out.2⟩ : W1.heap[w.heap.size]? = some (.cells P 26 (0, 0)) ∧ W1.heap[w.heap.size + 1]? = some (.cells X 30 (0, 0))))
  have HBW := hide (fun (W1 : World) (b : Below W.heap.size W W1) => (bW.trans (b.mono bW.size) : Below w.heap.size w W1))
  clear hW0 hW r0 z0 z1 b0 b1 bW hp h ht r0' r1 hk
  go_enter Tryz.func3, Tryz.ntmps3
  go_upto_region 1 with (fail)
  change Code.wp _ _ _ _ ((w.alloc (.cells P 26)).alloc (.cells X 30))
  rw [HW.out.1, HW.out.2]
  obtain ⟨p0, q0⟩ := HKK.out W.drew (Below.refl W.heap.size W).drew
  have D0 : Hid (Below W.heap.size W W.drew) := hide (Below.refl W.heap.size W).drew
  obtain ⟨R, hR⟩ : ∃ R, R = wrapG p T := ⟨_, rfl⟩
  have HRR := hide hR
  have KW := hide (fun (W1 : World) (Y : Array Value) (tg : TuG W1 Y T) => wrapG_any W1 P Y p T HPV.out tg HT.out.l (Nat.le_trans HT.out.s (by decide)))
  have KRW := hide (fun (W1 : World) (b : Below w.heap.size w W1) => refwrapG_any W1 P X p T HPV.out (HH.out.below b) HT.out.l (Nat.le_trans HT.out.D (by decide)) (fun x hx => Nat.le_trans (HT.out.d x hx) (by decide)))
  rw [← hR] at KW KRW
  have KPA := hide (fun (W1 : World) => path_any W1 P p HPV.out)
  clear hR
  go_region_held3 (fun w' => w'.heap[w.heap.size]? = some (.cells P 26 (0, 0)) ∧ w'.heap[w.heap.size + 1]? = some (.cells X 30 (0, 0)))
    (first
      | exact ⟨p0, q0⟩
      | exact ⟨p1, q1⟩
      | exact ⟨p2, q2⟩
      | exact ⟨p3, q3⟩
      | fail)
    (first
      | (go_at_call 5; (with_reducible refine (KPA.out _).mono ?_); rintro e v1 ⟨rfl, b1⟩; have D1 : Hid (Below W.heap.size W v1) := hide (below_undrew' b1); obtain ⟨p1, q1⟩ := HKK.out v1 D1.out; clear b1)
      | (go_at_call 6; (with_reducible refine (KG.out v1 (HBW.out v1 D1.out)).mono ?_); rintro e v2 ⟨Y, rfl, tg2, b2⟩; have D2 : Hid (Below W.heap.size W v2) := hide (D1.out.trans (b2.mono D1.out.size)); have T2 := hide tg2; obtain ⟨p2, q2⟩ := HKK.out v2 D2.out; clear b2 tg2)
      | (go_at_call 4; (with_reducible refine (KW.out v2 Y T2.out).mono ?_); rintro e v3 ⟨A3, c3, rfl, o3, b3⟩; have D3 : Hid (Below W.heap.size W v3) := hide (D2.out.trans (b3.mono D2.out.size)); have O3 := hide o3; obtain ⟨p3, q3⟩ := HKK.out v3 D3.out; clear b3 o3)
      | fail)
  clear p0 q0 p1 q1 p2 q2 KW KPA KG
  go_wp2_with fail
  refine (KRW.out v3 (HBW.out v3 D3.out)).mono ?_
  rintro e v4 ⟨A4, c4, rfl, o4, b4⟩
  have D4 : Hid (Below W.heap.size W v4) := hide (D3.out.trans (b4.mono D3.out.size))
  have O3' := hide (O3.out.onW b4)
  have O4 := hide o4
  have K4 := HKK.out v4 D4.out
  obtain ⟨Ai, ci, li, Ii, ki, hXe, hXp⟩ := id (HH.out.below (HBW.out v4 D4.out))
  have KKG := hide (genkind_any v4 Ii ki T.D hXp.i (HKN.out.below (HBW.out v4 D4.out)))
  have KKR := hide (refkind_any v4 Ii ki T.D hXp.i)
  have x4 : v4.cell? ⟨w.heap.size + 1, 4, none⟩ = some (.slice Ii T.D.length ki) := by
    have := cell_of_row v4 (w.heap.size + 1) 4 _ _ (0, 0) K4.2
    rw [hXe] at this
    exact this
  obtain ⟨nI, hnI⟩ : ∃ n, n = T.D.length := ⟨_, rfl⟩
  rw [← hnI] at x4 KKG KKR
  have cx4 := O3'.out.cvW
  have cy4 := O4.out.cvW
  have x4d : v4.drew.cell? ⟨w.heap.size + 1, 4, none⟩ = some (.slice Ii nI ki) := x4
  have cx4d : (convert 28 9 (.slice A3 R.1.length c3)).run Tryz.prog v4.drew = .ok (.string ⟨R.1.toArray⟩) v4.drew := (O3'.out.drewN 1).cvW
  have cy4d : (convert 28 9 (.slice A4 R.1.length c4)).run Tryz.prog v4.drew = .ok (.string ⟨R.1.toArray⟩) v4.drew := (O4.out.drewN 1).cvW
  have KKGd := hide (genkind_any v4.drew Ii ki T.D (hXp.i.below (Below.refl v4.heap.size v4).drew) ((HKN.out.below (HBW.out v4 D4.out)).below (Below.refl _ _).drew))
  have KKRd := hide (refkind_any v4.drew Ii ki T.D (hXp.i.below (Below.refl v4.heap.size v4).drew))
  rw [← hnI] at KKGd KKRd
  obtain ⟨KD, hKD⟩ : ∃ K, K = kindD T.D := ⟨_, rfl⟩
  rw [← hKD] at KKGd KKRd
  clear o4 b4 p3 q3 hXe hXp hnI KRW KKG KKR hKD
  dsimp only
  go_upto_region 3 with (fail)
  have hk4 := K4.2
  clear K4 hk4
  go_region_held3 (fun w' => w'.cell? ⟨w.heap.size + 1, 4, none⟩ = some (.slice Ii nI ki) ∧ (convert 28 9 (.slice A3 R.1.length c3)).run Tryz.prog w' = .ok (.string ⟨R.1.toArray⟩) w' ∧ (convert 28 9 (.slice A4 R.1.length c4)).run Tryz.prog w' = .ok (.string ⟨R.1.toArray⟩) w')
    (first | exact ⟨x4d, cx4d, cy4d⟩ | fail)
    (first
      | (go_at_call 8; (with_reducible refine KKGd.out.mono ?_); rintro e v5 ⟨rfl, rfl⟩)
      | (go_at_call 9; (with_reducible refine KKRd.out.mono ?_); rintro e v5 ⟨rfl, rfl⟩)
      | fail)
  obtain ⟨v5, hv5⟩ : ∃ v, v = v4.drew := ⟨_, rfl⟩
  have D5 : Hid (Below W.heap.size W v5) := hide (by rw [hv5]; exact D4.out.drew)
  have O5 : Hid (OwnB v5 v3.heap.size (.slice A4 R.1.length c4) R.1) := hide (by rw [hv5]; exact O4.out.drewN 1)
  clear x4 x4d cx4 cy4 cx4d cy4d
  by_cases hE : R.2 = 0
  · have hun := unw_wrap HPV.out.ls HPV.out.ld (by rw [← HRR.out]; exact hE)
    rw [← HRR.out] at hun
    obtain ⟨L, E⟩ := R
    simp only at hE hun
    subst hE
    dsimp only at O5
    obtain ⟨hu1, hu2, hu3⟩ := hun
    obtain ⟨Ay, cy, ey, hlc5, hby5, hnil5, -⟩ := O5.out.shape
    cases ey
    have KU := unwrapG_any v5 v5.heap.size A4 L c4 hlc5 (by omega) hby5 (Nat.le_refl _)
    rw [hu1] at KU
    have KU := hide KU
    have HMT := hide hu2
    clear hu1 hu2 hu3 hlc5 hby5 hnil5
    try dsimp only
    go_wp2_with fail
    rw [← hv5]
    refine KU.out.mono ?_
    rintro e v6 ⟨P6, X6, rfl, pv6, tf6, b6⟩
    have hps6 := pv6.size
    have hpo6 := pv6.one
    have hp06 := pv6.x0
    have hxs6 := tf6.tu.sizeU
    have hxo6 := tf6.tu.oneU
    have hx06 := tf6.tu.x0U
    obtain ⟨W7, hW7, r7, z7, b7⟩ := alloc_tl v6 (.cells P6 34)
    obtain ⟨W8, hW8, r8, z8, b8⟩ := alloc_tl W7 (.cells X6 38)
    obtain ⟨hk1, hk2⟩ := two_boxesU v6
    have hk3 : LtN v6.heap.size (v6.heap.size + 1) := Nat.lt_succ_self _
    have hk4 : (storeCells ⟨v6.heap.size + 1, 0, none⟩ X6.toList 0).run Tryz.prog ((v6.alloc (.cells P6 34)).alloc (.cells #[.bool false, .int .i64 0, .int .i64 0, .slice none 0 0, .slice none 0 0] 38)) = .ok () W8 := by rw [hW7, ← z7, ← hW8]; exact run_storeCells_new W7 38 _ X6 (by rw [hxs6]; exact info_tunG) (by rw [hxs6]; rfl) hxo6
    obtain ⟨g9, hg9⟩ : ∃ g, g = v6.heap.size := ⟨_, rfl⟩
    obtain ⟨g10, hg10⟩ : ∃ g, g = v6.heap.size + 1 := ⟨_, rfl⟩
    rw [← hg9] at r7
    rw [z7, ← hg10] at r8
    have r7 := (b8.block g9 (by omega)).trans r7
    have b68 : Below v6.heap.size v6 W8 := b7.trans (b8.mono (by omega))
    have D8 : Hid (Below W.heap.size W W8) := hide (D5.out.trans ((b6.trans (b68.mono b6.size)).mono D5.out.size))
    have T8 := hide (tf6.tu.below b68)
    have HG := hide (And.intro hg9 hg10)
    have HL8 : Hid (g9 < W8.heap.size ∧ g10 < W8.heap.size) := hide (by omega)
    have HW8 := hide (And.intro hW7 hW8)
    have HP6 := hide pv6
    have R8 := hide (And.intro r7 r8)
    obtain ⟨kp8, -⟩ := HKK.out W8 D8.out
    clear hW7 hW8 b6 b7 b8 b68 z7 z8 r7 r8 tf6 pv6 KU
    dsimp only
    go_upto_region 8 with (fail)
    try rw [hk4]
    clear hk1 hk2 hk3 hk4
    go_upto_region 8 with (fail)
    try rw [HW8.out.1]
    try rw [HW8.out.2]
    rw [← HG.out.2, ← HG.out.1]
    clear hg9 hg10
    obtain ⟨W9, hW9, r9, z9, b9⟩ := alloc_tl W8 (.cells P 26)
    have D9 : Hid (Below W.heap.size W W9) := hide (D8.out.trans (b9.mono D8.out.size))
    have HG9 : Hid (W8.heap.size < W9.heap.size) := hide (by omega)
    have c36 := (HPV.out.cells r9).2.2.2
    have f36 := frozen_of_row W9 W8.heap.size 36 _ _ r9
    have R9 := hide r9
    have B9 := hide b9
    clear r9 z9 b9
    go_upto_region 9 with (fail)
    try rw [hW9]
    clear hW9
    obtain ⟨g12, hg12⟩ : ∃ g, g = W8.heap.size := ⟨_, rfl⟩
    rw [← hg12] at c36 f36 R9 HG9 ⊢
    have HG12 : Hid (g9 < g12 ∧ g10 < g12 ∧ W.heap.size ≤ g12 ∧ W8.heap.size ≤ g12) := hide (by have h1 := HL8.out; have h2 := D8.out.size; omega)
    clear hg12
    go_upto_region 10 with (fail)
    obtain ⟨Wa, hWa⟩ : ∃ x, x = W9.setCell ⟨g12, 36, none⟩ (.int .i64 0) := ⟨_, rfl⟩
    rw [← hWa]
    have rA := HPV.out.store R9.out 0
    rw [← hWa] at rA
    have gsa : W9.grownBy Wa (some g12) := by rw [hWa]; exact grown_set W9 g12 36 _
    have hPe : P6 = (paL (atMtu p 0)).toArray := HP6.out.eq
    rw [← hPe] at rA
    have B9a : Below W8.heap.size W8 Wa := B9.out.grown gsa B9.out.size (fun k e => by cases e; exact HG12.out.2.2.2)
    have e9 : Wa.heap[g9]? = some (.cells P6 34 (0, 0)) := (B9a.block g9 HL8.out.1).trans R8.out.1
    have e10 : Wa.heap[g10]? = some (.cells X6 38 (0, 0)) := (B9a.block g10 HL8.out.2).trans R8.out.2
    have Da : Hid (Below W.heap.size W Wa) := hide (D8.out.trans (B9a.mono D8.out.size))
    have Ta := hide (T8.out.below B9a)
    obtain ⟨kpa, kqa⟩ := HKK.out Wa Da.out
    have hkm := (HPV.out.cells kpa).2.2.2
    obtain ⟨pm, hpm⟩ : ∃ m, m = p.mtu := ⟨_, rfl⟩
    rw [← hpm] at hkm HMT
    have hle : (L.length : Int) ≤ pm := HMT.out
    have HKA := hide (fun (W1 : World) (b : Below Wa.heap.size Wa W1) => (⟨(b.block g9 (Array.getElem?_eq_some_iff.1 e9).1).trans e9, (b.block g12 (Array.getElem?_eq_some_iff.1 rA).1).trans rA, (b.block g10 (Array.getElem?_eq_some_iff.1 e10).1).trans e10, (b.block (w.heap.size + 1) (Array.getElem?_eq_some_iff.1 kqa).1).trans kqa, (World.cell?_of_block (a := ⟨w.heap.size, 36, none⟩) (b.block w.heap.size (Array.getElem?_eq_some_iff.1 kpa).1)).trans hkm⟩ : W1.heap[g9]? = some (.cells P6 34 (0, 0)) ∧ W1.heap[g12]? = some (.cells P6 26 (0, 0)) ∧ W1.heap[g10]? = some (.cells X6 38 (0, 0)) ∧ W1.heap[w.heap.size + 1]? = some (.cells X 30 (0, 0)) ∧ W1.cell? ⟨w.heap.size, 36, none⟩ = some (.int .i64 pm)))
    have KWY := hide (fun (W1 : World) => way_any W1 P6 _ HP6.out)
    have KTA := hide (fun (W1 : World) (b : Below Wa.heap.size Wa W1) => takenG_any W1 X6 T (Ta.out.below b) HT.out.l)
    have KSA := hide (fun (W1 : World) (b : Below Wa.heap.size Wa W1) (Y6 : Array Value) (tg : TuG W1 Y6 T) => refsameG_any W1 Y6 X T tg (HH.out.below (HBW.out W1 (Da.out.trans (b.mono Da.out.size)))) HT.out.l)
    have heq : ∀ W', (binOp .eql 26 (.agg P6) (.agg P6)).run Tryz.prog W' = .ok (.bool true) W' := fun W' => eql_gw W' P6 _ HP6.out
    obtain ⟨x0, y0, u0, s0, m0⟩ := HKA.out Wa.drew (Below.refl Wa.heap.size Wa).drew
    have E0 : Hid (Below Wa.heap.size Wa Wa.drew) := hide (Below.refl Wa.heap.size Wa).drew
    clear hWa gsa rA hPe B9a e9 e10 kpa kqa hkm hpm c36 f36 kp8
    go_region_held3 (fun w' => w'.heap[g9]? = some (.cells P6 34 (0, 0)) ∧ w'.heap[g12]? = some (.cells P6 26 (0, 0)) ∧ w'.heap[g10]? = some (.cells X6 38 (0, 0)) ∧ w'.heap[w.heap.size + 1]? = some (.cells X 30 (0, 0)) ∧ w'.cell? ⟨w.heap.size, 36, none⟩ = some (.int .i64 pm))
      (first
        | exact ⟨x0, y0, u0, s0, m0⟩
        | exact ⟨x1, y1, u1, s1, m1⟩
        | exact ⟨x2, y2, u2, s2, m2⟩
        | exact ⟨x3, y3, u3, s3, m3⟩
        | exact ⟨x4, y4, u4, s4, m4⟩
        | fail)
      (first
        | (go_at_call 12; (with_reducible refine (KWY.out Wa.drew).mono ?_); rintro e u1w ⟨rfl, c1⟩; have E1 : Hid (Below Wa.heap.size Wa u1w) := hide (below_undrew' c1); obtain ⟨x1, y1, u1, s1, m1⟩ := HKA.out u1w E1.out; clear c1)
        | (go_at_call 14; (with_reducible refine (KTA.out u1w E1.out).mono ?_); rintro e u2w ⟨Y2, rfl, tg2, c2⟩; have E2 : Hid (Below Wa.heap.size Wa u2w) := hide (E1.out.trans (c2.mono E1.out.size)); have T2x := hide tg2; obtain ⟨x2, y2, u2, s2, m2⟩ := HKA.out u2w E2.out; clear c2 tg2)
        | (go_at_call 13; (with_reducible refine (KSA.out u2w E2.out Y2 T2x.out).mono ?_); rintro e u3w ⟨rfl, c3⟩; have E3 : Hid (Below Wa.heap.size Wa u3w) := hide (E2.out.trans (c3.mono E2.out.size)); obtain ⟨x3, y3, u3, s3, m3⟩ := HKA.out u3w E3.out; clear c3)
        | (go_at_call 10; (with_reducible refine (known7_any u3w).mono ?_); rintro e u4w ⟨rfl, c4⟩; have E4 : Hid (Below Wa.heap.size Wa u4w) := hide (E3.out.trans (c4.mono E3.out.size)); obtain ⟨x4, y4, u4, s4, m4⟩ := HKA.out u4w E4.out; clear c4)
        | fail)
    all_goals (
      go_wp2
      go_ret
      exact ⟨rfl, HBW.out u4w (Da.out.trans (E4.out.mono Da.out.size))⟩)
  · have hEn : (R.2 != 0) = true := by simpa using hE
    have DK := hide D5.out
    clear hE
    go_wp2_with fail
    rw [← hv5]
    refine (known7_any v5).mono ?_
    rintro e v6 ⟨rfl, b6⟩
    have DF : Hid (Below w.heap.size w v6) := hide (HBW.out v6 (D5.out.trans (b6.mono D5.out.size)))
    clear b6
    (try dsimp only)
    go_wp2
    go_ret
    exact ⟨rfl, DF.out⟩
end Go.Proofs.YtihakjcccbionaaGreatDoor

end
