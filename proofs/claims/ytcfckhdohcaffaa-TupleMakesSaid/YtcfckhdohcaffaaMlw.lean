import Derived.Test.YtcfckhdohcaffaaLt
import Derived.Test.YtcfckhdohcaffaaMna
import Derived.Test.YtcfckhdohcaffaaMjv
import Derived.Test.YtcfckhdohcaffaaTur
import Derived.Test.YtcfckhdohcaffaaKcu
import Derived.Deep.RegionHeld3
import Derived.Test.YtcfckhdohcaffaaNf
import Derived.Test.YtcfckhdohcaffaaSpl
import Derived.Test.YtcfckhdohcaffaaLent
section
/-
  What is seen of a packet that was made of a tuple; the walk of the document's own Make.
-/
namespace Go.Proofs.Ytcfckhdohcaffaa
open Go.RowKit
attribute [local go_sem ↓] exec_span exec_put exec_build heap_alloc_new heap_old heap_alloc_drew
attribute [local go_sem] spanQ_ptr spanC_some heap_of_drew heap_of_drewN rs_arr rs_ad rs_ip rs_rip rs_seg rs_rseg rs_tup rs_seen putAt_ptr putOk_ptr oldOk_some World.setRow_alloc_new setRow_drew
set_option maxRecDepth 100000
set_option linter.unusedVariables false
set_option linter.unusedSimpArgs false

theorem rightT_proto {t : Tup} (h : rightT t = true) : t.p = 6 ∨ t.p = 17 := by
  unfold rightT protoOk at h
  simp only [Bool.and_eq_true, Bool.or_eq_true, beq_iff_eq] at h
  exact h.1.1.2
/-- what a made packet is. -/
theorem made_parts {t : Tup} {f : Int} {D : List UInt8} (h0 : mkE t f D = 0) : rightT t = true ∧ mkP t f D = 0 ∧ pktE (makH t none (mkL t f D).length 0) = 0 ∧ mkB t f D = pktB (makH t none (mkL t f D).length 0) [] (mkL t f D) ∧ mkL t f D = segB (makH t none 0 0) (makS t f none D.length 0) [] D := by
  unfold mkE at h0
  have hr : rightT t = true := by
    cases hc : rightT t with
    | true => rfl
    | false => rw [hc, if_pos rfl] at h0; exact absurd h0 (by decide)
  rw [if_neg (by rw [hr]; simp)] at h0
  have hm : mkP t f D = 0 := by
    by_cases hc : mkP t f D = 0
    · exact hc
    · rw [if_pos hc] at h0; exact absurd h0 hc
  rw [if_neg (by rw [hm]; simp)] at h0
  refine ⟨hr, hm, h0, ?_, ?_⟩
  · unfold mkB
    rw [if_neg (by rw [hr]; simp), if_neg (by rw [hm]; simp)]
  · unfold mkL putB
    rw [if_pos (show putE (makH t none 0 0) (makS t f none D.length 0) = 0 from hm)]
theorem made_seen {t : Tup} {f : Int} {D : List UInt8} (ls : t.sb.length = 16) (ld : t.db.length = 16) (h0 : mkE t f D = 0) : seenE (mkB t f D) = 0 ∧ seenT (mkB t f D) = t ∧ (seenG (mkB t f D)).f = f := by
  obtain ⟨hr, hm, he, hB, hS⟩ := made_parts h0
  obtain ⟨S, hSS⟩ : ∃ S, S = mkL t f D := ⟨_, rfl⟩
  obtain ⟨H, hHH⟩ : ∃ H, H = makH t none (mkL t f D).length 0 := ⟨_, rfl⟩
  have eHls : H.sb.length = 16 := by rw [hHH]; exact ls
  have eHld : H.db.length = 16 := by rw [hHH]; exact ld
  have eHo : ([] : List UInt8).length = H.no := by rw [hHH]; rfl
  have eHd : S.length = H.nd := by rw [hHH, hSS]; rfl
  rw [← hHH] at he
  rw [← hHH, ← hSS] at hB
  have hlen := pk_len he eHls eHld eHo eHd
  have hne : pktB H [] S ≠ [] := fun e => by
    rw [e] at hlen
    unfold sizeN at hlen
    split at hlen <;> simp at hlen <;> omega
  have hp0 : pkE (pktB H [] S) = 0 := by
    have e := pk_on (T := []) he eHls eHld eHo eHd
    rw [List.append_nil] at e
    exact e
  have hkd : pkH (pktB H [] S) = othH H none 0 none 0 ∧ pkD (pktB H [] S) = S := by
    cases hv : H.v
    · have hlP := len_hd4 H [] eHls eHld
      have h4 := first4 he hv (l := pktB H [] S) (by rw [pkt4_eq he hv eHls eHld eHo eHd, pre_app _ _ _ (by omega)]) hne
      obtain ⟨b1, -, b3⟩ := back4 he hv eHls eHld eHo eHd none none 0 0
      unfold pkH pkD
      rw [if_pos h4, if_pos h4]
      exact ⟨b1, b3⟩
    · have hlP := len_hd6 H eHls eHld
      have h6 := first6 he hv (l := pktB H [] S) (by rw [pkt6_eq he hv eHls eHld eHd, pre_app _ _ _ (by omega)]) hne
      obtain ⟨b1, b3⟩ := back6 (O := []) he hv eHls eHld eHd none 0
      unfold pkH pkD
      rw [if_neg (by omega), if_neg (by omega)]
      exact ⟨b1, b3⟩
  have hs0 : segE (makH t none 0 0) S = 0 := by
    rw [hSS, hS]
    exact segE_laid hm ls ld rfl rfl (by show (0 : Nat) < _; decide) (by show (0 : Nat) < _; decide)
  obtain ⟨⟨ao', co', hg, -⟩, -, -⟩ := gotS_of (h := makH t none 0 0) (s := makS t f none D.length 0) (O := []) (D := D) hm rfl rfl (by show (0 : Nat) < _; decide) (by show (0 : Nat) < _; decide) none none 0 0
  rw [← hS, ← hSS] at hg
  have hG : seenG (pktB H [] S) = gotS (makH t none 0 0) S none 0 none 0 := by
    unfold seenG
    rw [hkd.1, hkd.2, hHH]
    rfl
  rw [hB]
  refine ⟨?_, ?_, ?_⟩
  · unfold seenE
    rw [if_neg (by rw [hp0]; simp), hkd.1, hkd.2, hHH]
    exact hs0
  · unfold seenT
    rw [hG, hg, hkd.1, hHH]
    rfl
  · rw [hG, hg]
    rfl
/-- flags that can't be. -/
theorem made_bad {t : Tup} {f : Int} {D : List UInt8} (hr : rightT t = true) (hf : ¬ (0 ≤ f ∧ f ≤ 255 ∧ (t.p = 17 → f = 0))) : mkE t f D = 1 ∧ mkB t f D = [] := by
  have hp := rightT_proto hr
  have h1 : mkP t f D = 1 := by
    unfold mkP putE
    rw [if_pos ⟨hp, rfl⟩, if_neg]
    rintro ⟨h2, -⟩
    obtain ⟨-, -, h6, h17⟩ := rightS_facts h2
    apply hf
    rcases hp with e | e
    · obtain ⟨h3, -⟩ := h6 e
      exact ⟨h3.1, h3.2, fun e2 => by omega⟩
    · obtain ⟨-, -, h3, -⟩ := h17 (by show t.p ≠ 6; omega)
      have h3' : f = 0 := h3
      exact ⟨by omega, by omega, fun _ => h3'⟩
  unfold mkE mkB
  rw [if_neg (by rw [hr]; simp), if_pos (by rw [h1]; simp), if_neg (by rw [hr]; simp), if_pos (by rw [h1]; simp)]
  exact ⟨h1, rfl⟩
theorem built_rmhA (v u : Bool) (p : Int) (b0 b1 b2 b3 b4 b5 b6 b7 b8 b9 b10 b11 b12 b13 b14 b15 c0 c1 c2 c3 c4 c5 c6 c7 c8 c9 c10 c11 c12 c13 c14 c15 : UInt8) : Try.prog.built 27 [(0, .bool v), (1, .agg (adL v [b0, b1, b2, b3, b4, b5, b6, b7, b8, b9, b10, b11, b12, b13, b14, b15]).toArray), (2, .agg (adL u [c0, c1, c2, c3, c4, c5, c6, c7, c8, c9, c10, c11, c12, c13, c14, c15]).toArray), (3, .int .i64 p), (4, .int .i64 64)] = some (ipL (makH ⟨v, [b0, b1, b2, b3, b4, b5, b6, b7, b8, b9, b10, b11, b12, b13, b14, b15], u, [c0, c1, c2, c3, c4, c5, c6, c7, c8, c9, c10, c11, c12, c13, c14, c15], p, 0, 0⟩ none 0 0)).toArray := by kernel_rfl
theorem built_rmh (t : Tup) (ls : t.sb.length = 16) (ld : t.db.length = 16) : Try.prog.built 27 [(0, .bool t.sv), (1, .agg (adL t.sv t.sb).toArray), (2, .agg (adL t.dv t.db).toArray), (3, .int .i64 t.p), (4, .int .i64 64)] = some (ipL (makH t none 0 0)).toArray := by
  obtain ⟨v, sb, u, db, p, s, d⟩ := t
  match sb, ls, db, ld with
  | [_, _, _, _, _, _, _, _, _, _, _, _, _, _, _, _], _, [_, _, _, _, _, _, _, _, _, _, _, _, _, _, _, _], _ => exact built_rmhA _ _ _ _ _ _ _ _ _ _ _ _ _ _ _ _ _ _ _ _ _ _ _ _ _ _ _ _ _ _ _ _ _ _ _
theorem built_rms (t : Tup) (f : Int) (ad : Option Addr) (n c : Nat) : Try.prog.built 30 [(0, .int .i64 t.p), (1, .int .i64 t.s), (2, .int .i64 t.d), (5, .int .i64 f), (10, .slice ad n c)] = some (sgL (makS t f ad n c)).toArray := by kernel_rfl

set_option maxHeartbeats 4000000 in
theorem refmake_any (w : World) (X : Array Value) (t : Tup) (x : TuV X t) (f : Int) (A : Option Addr) (c : Nat) (D : List UInt8) (hD : Byt w w.heap.size A D) (hn : D.length ≤ 140737488351232) (hnil : A = none → c = 0) :
    Calls Try.prog 26 #[.agg X, .int .i64 f, .slice A D.length c] w fun e w' => MakeS w t f D e w' := by
  have hxs := x.size
  have hx0 := x.x0
  have ls := x.ls
  have ld := x.ld
  obtain ⟨W, hW, r1, hz, hbW⟩ := one_block w (.cells X 52)
  have KR := hide (refrighttuple_any W X t x)
  have hk := hide (fun (w1 : World) (b : Below W.heap.size W w1) => ((b.block w.heap.size (by omega)).trans r1 : w1.heap[w.heap.size]? = some (.cells X 52 (0, 0))))
  have HB := hide hbW
  have HZ := hide hz
  have HX := hide x
  have HD := hide hD
  obtain ⟨pp, hpp⟩ : ∃ v, v = t.p := ⟨_, rfl⟩
  have hk34 : Hid (∀ w1 : World, Below W.heap.size W w1 → w1.cell? ⟨w.heap.size, 34, none⟩ = some (.int .i64 pp)) := hide (fun w1 b => by rw [hpp]; exact (HX.out.cells (hk.out w1 b)).2.2.1)
  have HPP := hide hpp
  clear hpp
  by_cases hr : rightT t = true
  · rw [hr] at KR
    by_cases hf : 0 ≤ f ∧ f ≤ 255 ∧ (t.p = 17 → f = 0)
    · have e1 : mkE t f D = if mkP t f D ≠ 0 then mkP t f D else pktE (makH t none (mkL t f D).length 0) := by unfold mkE; rw [if_neg (by rw [hr]; decide)]
      have e2 : mkB t f D = if mkP t f D ≠ 0 then [] else pktB (makH t none (mkL t f D).length 0) [] (mkL t f D) := by unfold mkB; rw [if_neg (by rw [hr]; decide)]
      have HE1 := hide e1
      have HE2 := hide e2
      obtain ⟨f0, f1, f2⟩ := hf
      have key : ((pp == 17) = true ∧ (f != 0) = false) ∨ (pp == 17) = false := by
        by_cases h17 : pp = 17
        · exact .inl ⟨by simpa using h17, by have := f2 (by rw [← HPP.out]; exact h17); simp [this]⟩
        · exact .inr (by simpa using h17)
      clear hr e1 e2 hbW hz x hD f2
      rcases key with ⟨e17, ef⟩ | e17
      all_goals (
        go_enter Try.func26, Try.ntmps26
        go_wp2_with fail
        refine KR.out.mono ?_
        rintro e w1 ⟨rfl, b1⟩
        have B1 : Hid (Below W.heap.size W w1) := hide b1
        have q1 := hk.out w1 b1
        have x1 := HX.out.src
        have x2 := HX.out.dst
        obtain ⟨k0, k17, k34, k35, k36⟩ := HX.out.cells q1
        rw [← HPP.out] at k34
        have bm := built_rmh t ls ld
        have bs := built_rms t f A D.length c
        rw [← HPP.out] at bm bs
        obtain ⟨S, hS⟩ : ∃ S, S = (adL t.sv t.sb).toArray := ⟨_, rfl⟩
        obtain ⟨T, hT⟩ : ∃ S, S = (adL t.dv t.db).toArray := ⟨_, rfl⟩
        rw [← hS] at x1 bm
        rw [← hT] at x2 bm
        obtain ⟨XH, hXH⟩ : ∃ XH, XH = (ipL (makH t none 0 0)).toArray := ⟨_, rfl⟩
        obtain ⟨XS, hXS⟩ : ∃ XS, XS = (sgL (makS t f A D.length c)).toArray := ⟨_, rfl⟩
        rw [← hXH] at bm
        rw [← hXS] at bs
        have VH : IpV XH (makH t none 0 0) := ⟨hXH, ls, ld⟩
        have VS : SgV XS (makS t f A D.length c) := ⟨hXS, Nat.succ_pos _, Nat.succ_pos _⟩
        have hs1 := VH.size
        have hs2 := VH.one
        have hs3 := VH.x0
        have ss1 := VS.size
        have ss2 := VS.one
        have ss3 := VS.x0
        have hg1 : w.heap.size < w1.heap.size := (Array.getElem?_eq_some_iff.1 q1).1
        obtain ⟨w2, hw2⟩ : ∃ w2, w1.alloc (.cells XH 27) = w2 := ⟨_, rfl⟩
        have b2 : Below w1.heap.size w1 w2 := by rw [← hw2]; exact (Below.refl _ _).alloc (Nat.le_refl _) _
        have q2 := (b2.block _ hg1).trans q1
        have rH : w2.heap[w1.heap.size]? = some (.cells XH 27 (0, 0)) := by rw [← hw2]; exact heap_alloc_new w1 _
        obtain ⟨j0, j17, j34, j35, j36⟩ := HX.out.cells q2
        rw [← HPP.out] at j34
        have B2 : Hid (Below W.heap.size W w2) := hide (b1.trans (b2.mono b1.size))
        have KP := refputS_any w2 XH XS (makH t none 0 0) (makS t f A D.length c) VH VS [] D (Byt.nil _ _ _) rfl (fun _ => rfl) ((HD.out.below (HB.out.trans (B2.out.mono HB.out.size))).more (Nat.le_trans HB.out.size B2.out.size)) rfl hnil (Nat.le_trans hn (by decide))
        have hP1 : putE (makH t none 0 0) (makS t f A D.length c) = mkP t f D := rfl
        have hP2 : putB (makH t none 0 0) (makS t f A D.length c) [] D = mkL t f D := rfl
        rw [hP1, hP2] at KP
        obtain ⟨E, hE⟩ : ∃ E, E = mkP t f D := ⟨_, rfl⟩
        obtain ⟨L, hL⟩ : ∃ L, L = mkL t f D := ⟨_, rfl⟩
        rw [← hE, ← hL] at KP HE1 HE2
        have HKP := hide KP
        have HL : Hid (L.length ≤ 65535) := hide (by
          rw [hL]
          show (putB (makH t none 0 0) (makS t f A D.length c) [] D).length ≤ 65535
          unfold putB
          by_cases h0 : putE (makH t none 0 0) (makS t f A D.length c) = 0
          · obtain ⟨-, -, p3, -, p5⟩ := putE_zero h0
            rw [if_pos h0, len_segB p3 rfl rfl]
            exact p5
          · rw [if_neg h0]; exact Nat.zero_le _)
        have HRH := hide rH
        have HVH := hide VH
        have HG1 : Hid (W.heap.size ≤ w1.heap.size) := hide b1.size
        clear KP hP1 hP2 hE hL VS VH b1 b2 hg1 q2 hS hT hXS hXH
        dsimp only
        go_wp2_with fail
        refine HKP.out.mono ?_
        rintro e w4 ⟨A4, c4, rfl, o4, b4⟩
        have B4 : Hid (Below W.heap.size W w4) := hide (B2.out.trans (b4.mono B2.out.size))
        have r4 := (b4.block w1.heap.size (Array.getElem?_eq_some_iff.1 HRH.out).1).trans HRH.out
        clear hw2 k0 k17 k34 k35 k36 j0 j17 j34 j35 j36 bm bs x1 x2 q1 rH
        by_cases hE0 : E = 0
        · subst hE0
          obtain ⟨A', c', hv', hlc4, hby4, hnil4, hbl4⟩ := o4.shape
          cases hv'
          have g42 := (HVH.out.cells r4).c42
          have f42 := frozen_of_row w4 w1.heap.size 42 _ _ r4
          obtain ⟨r5, g5⟩ := set_dat HVH.out r4 A4 L.length c4
          have hb5 : Below W.heap.size W (w4.setCell ⟨w1.heap.size, 42, none⟩ (.slice A4 L.length c4)) := B4.out.grown g5 B4.out.size (fun i e => by cases e; exact HG1.out)
          have hG3 := (Array.getElem?_eq_some_iff.1 HRH.out).1
          have hby5 : Byt (w4.setCell ⟨w1.heap.size, 42, none⟩ (.slice A4 L.length c4)) w4.heap.size A4 L := hby4.other (Nat.le_refl _) g5 (fun a e => by have := (hbl4 a e).1; omega)
          obtain ⟨X5, hX5⟩ : ∃ X5, X5 = (ipL (makH t A4 L.length c4)).toArray := ⟨_, rfl⟩
          have r5' : (w4.setCell ⟨w1.heap.size, 42, none⟩ (.slice A4 L.length c4)).heap[w1.heap.size]? = some (.cells X5 27 (0, 0)) := by rw [hX5]; exact r5
          obtain ⟨w5, hw5⟩ : ∃ w5, w4.setCell ⟨w1.heap.size, 42, none⟩ (.slice A4 L.length c4) = w5 := ⟨_, rfl⟩
          have hn5 : w4.heap.size ≤ w5.heap.size := by rw [← hw5]; simp
          rw [hw5] at r5' hb5 hby5
          have V5 : IpV X5 (makH t A4 L.length c4) := ⟨hX5, ls, ld⟩
          have KH := refputH_any w5 X5 (makH t A4 L.length c4) [] L ⟨V5, Byt.nil _ _ _, rfl, Nat.le_refl _, Nat.zero_le _, fun _ => rfl, hby5.more hn5, rfl, hlc4, by have := HL.out; show L.length ≤ _; omega, hnil4⟩
          have hK1 : pktE (makH t A4 L.length c4) = pktE (makH t none L.length 0) := rfl
          have hK2 : pktB (makH t A4 L.length c4) [] L = pktB (makH t none L.length 0) [] L := rfl
          have e3 : mkE t f D = pktE (makH t none L.length 0) := by rw [HE1.out, if_neg (by simp)]
          have e4 : mkB t f D = pktB (makH t none L.length 0) [] L := by rw [HE2.out, if_neg (by simp)]
          rw [hK1, hK2, ← e3, ← e4] at KH
          have HKH := hide KH
          have HB5 := hide hb5
          have h5s := V5.size
          have h50 := V5.x0
          clear KH hK1 hK2 e3 e4 hX5 V5 hby5 hn5 hb5 g5 hG3 r5 hby4 o4 hbl4 hlc4 r4 b4 HE1 HE2 hnil4
          dsimp only
          go_wp2_with fail
          refine HKH.out.mono ?_
          rintro e w6 ⟨A6, c6, rfl, o6, b6⟩
          have B6 : Hid (Below w.heap.size w w6) := hide (HB.out.trans ((HB5.out.trans (b6.mono HB5.out.size)).mono HB.out.size))
          have O6 := hide (own_low o6 (Nat.le_trans HB.out.size HB5.out.size))
          clear o6 b6 hw5 g42 f42 r5'
          dsimp only
          go_wp2
          first | exact ⟨A6, c6, rfl, O6.out, B6.out⟩ | (go_ret2; exact ⟨A6, c6, rfl, O6.out, B6.out⟩)
        · have hEb : (E != 0) = true := by simpa using hE0
          have e3 : Hid (mkE t f D = E) := hide (by rw [HE1.out, if_pos hE0])
          have e4 : Hid (mkB t f D = []) := hide (by rw [HE2.out, if_pos hE0])
          have B6 : Hid (Below w.heap.size w w4) := hide (HB.out.trans (B4.out.mono HB.out.size))
          clear o4 b4 hE0 r4
          dsimp only
          go_wp2
          first | exact ⟨none, 0, by rw [e3.out, e4.out]; rfl, by rw [e4.out]; exact OwnB.nil _ _, B6.out⟩ | (go_ret2; exact ⟨none, 0, by rw [e3.out, e4.out]; rfl, by rw [e4.out]; exact OwnB.nil _ _, B6.out⟩))
    · obtain ⟨e3', e4'⟩ := made_bad (D := D) hr hf
      have e3 := hide e3'
      have e4 := hide e4'
      have key : f < 0 ∨ (0 ≤ f ∧ 255 < f) ∨ (0 ≤ f ∧ f ≤ 255 ∧ (pp == 17) = true ∧ (f != 0) = true) := by
        by_cases h1 : f < 0
        · exact .inl h1
        · by_cases h2 : 255 < f
          · exact .inr (.inl ⟨by omega, h2⟩)
          · refine .inr (.inr ⟨by omega, by omega, ?_⟩)
            by_cases h17 : pp = 17
            · refine ⟨by simpa using h17, ?_⟩
              by_cases h0 : f = 0
              · exact absurd ⟨by omega, by omega, fun _ => h0⟩ hf
              · simpa using h0
            · exact absurd ⟨by omega, by omega, fun e => absurd (HPP.out.trans e) h17⟩ hf
      clear hr hf hbW hz x hD e3' e4'
      rcases key with q1 | ⟨q1, q2⟩ | ⟨q1, q2, q3, q4⟩
      all_goals (
        go_enter Try.func26, Try.ntmps26
        go_wp2_with fail
        refine KR.out.mono ?_
        rintro e w1 ⟨rfl, b1⟩
        have k34 := hk34.out w1 b1
        have B1 : Hid (Below w.heap.size w w1) := hide (HB.out.trans (b1.mono HB.out.size))
        clear b1
        dsimp only
        go_wp2
        first | exact ⟨none, 0, by rw [e3.out, e4.out]; rfl, by rw [e4.out]; exact OwnB.nil _ _, B1.out⟩ | (go_ret2; exact ⟨none, 0, by rw [e3.out, e4.out]; rfl, by rw [e4.out]; exact OwnB.nil _ _, B1.out⟩))
  · have hrf : rightT t = false := by simpa using hr
    rw [hrf] at KR
    have e3 : Hid (mkE t f D = 1) := hide (by unfold mkE; rw [if_pos hrf])
    have e4 : Hid (mkB t f D = []) := hide (by unfold mkB; rw [if_pos hrf])
    clear hr hrf hbW hz x hD
    go_enter Try.func26, Try.ntmps26
    go_wp2_with fail
    refine KR.out.mono ?_
    rintro e w1 ⟨rfl, b1⟩
    have B1 : Hid (Below w.heap.size w w1) := hide (HB.out.trans (b1.mono HB.out.size))
    clear b1
    dsimp only
    go_wp2
    first | exact ⟨none, 0, by rw [e3.out, e4.out]; rfl, by rw [e4.out]; exact OwnB.nil _ _, B1.out⟩ | (go_ret2; exact ⟨none, 0, by rw [e3.out, e4.out]; rfl, by rw [e4.out]; exact OwnB.nil _ _, B1.out⟩)
end Go.Proofs.Ytcfckhdohcaffaa

end
section
/-
  The walk of the statement TupleMakes.
-/
namespace Go.Proofs.Ytcfckhdohcaffaa
open Go.RowKit
attribute [local go_sem ↓] exec_span exec_put exec_build heap_alloc_new heap_old heap_alloc_drew
attribute [local go_sem] spanQ_ptr spanC_some heap_of_drew heap_of_drewN rs_arr rs_ad rs_ip rs_rip rs_seg rs_rseg rs_tup rs_seen putAt_ptr putOk_ptr oldOk_some World.setRow_alloc_new setRow_drew
set_option maxRecDepth 100000
set_option linter.unusedVariables false
set_option linter.unusedSimpArgs false

theorem OwnB.cv6 {w : World} {base : Nat} {A : Option Addr} {c : Nat} {l : List UInt8} (h : OwnB w base (.slice A l.length c) l) : (convert 25 9 (.slice A l.length c)).run Try.prog w = .ok (.string ⟨l.toArray⟩) w := by
  obtain ⟨A', c', e, hlc, hby, -⟩ := h.shape
  cases e
  exact conv_any A c l w.heap.size w hby
theorem OwnB.on6 {w w' : World} {base : Nat} {v : Value} {l : List UInt8} (h : OwnB w base v l) (b : Below w.heap.size w w') : OwnB w' base v l := World.ownsRow.kept h (below_row b none) (Classical.em _)
theorem made_len {t : Tup} {f : Int} {D : List UInt8} (ls : t.sb.length = 16) (ld : t.db.length = 16) (h0 : mkE t f D = 0) : (mkB t f D).length ≤ 65535 := by
  obtain ⟨hr, hm, he, hB, hS⟩ := made_parts h0
  rw [hB, pk_len he ls ld rfl rfl]
  exact (pktE_zero he).2

set_option maxHeartbeats 8000000 in
theorem tupleMakes_any (w : World) (X : Array Value) (t : Tup) (x : TuV X t) (f : Int) (A : Option Addr) (c : Nat) (D : List UInt8) (hD : Byt w w.heap.size A D) (hc : D.length ≤ c) (hn : D.length ≤ 140737488351232) (hnil : A = none → c = 0) :
    Calls Try.prog 6 #[.agg X, .int .i64 f, .slice A D.length c] w fun e w' => e = .returned (.bool true) ∧ Below w.heap.size w w' := by
  have hxs := x.size
  have hxr := x.x0
  have ls := x.ls
  have ld := x.ld
  obtain ⟨W, hW, r1, hz, hbW⟩ := one_block w (.cells X 52)
  have KL := hide (lent_any A c D W.heap.size W hc (by omega) ((hD.below hbW).more hbW.size) (Nat.le_refl _))
  have hk := hide (fun (w1 : World) (b : Below W.heap.size W w1) => ((b.block w.heap.size (by omega)).trans r1 : w1.heap[w.heap.size]? = some (.cells X 52 (0, 0))))
  have HDD := hide (fun (w1 : World) (b : Below w.heap.size w w1) => hD.below b)
  have KQ := hide (fun (w1 : World) (b : Below w.heap.size w w1) => refmake_any w1 X t x f A c D ((hD.below b).more b.size) hn hnil)
  have HB := hide hbW
  have HZ := hide hz
  have HX := hide x
  have HN := hide hn
  have HC := hide hc
  obtain ⟨E, hE⟩ : ∃ E, E = mkE t f D := ⟨_, rfl⟩
  obtain ⟨L, hL⟩ : ∃ L, L = mkB t f D := ⟨_, rfl⟩
  have HE := hide hE
  have HL := hide hL
  clear hbW hz x hD hnil hE hL hn hc
  go_enter Try.func6, Try.ntmps6
  go_wp2_with fail
  refine KL.out.mono ?_
  rintro e w1 ⟨rfl, L1, b1⟩
  have B1 : Hid (Below W.heap.size W w1) := hide b1
  have q1 := hk.out w1 b1
  have KM := make_any w1 X t HX.out f (some ⟨W.heap.size, 0, none⟩) (D.length + 8) D (L1.byt L1.lt) (Nat.le_add_right _ _) (by have := HN.out; omega) (fun e => by cases e)
  unfold MakeS at KM
  rw [← HE.out, ← HL.out] at KM
  have HKM := hide KM
  have HL1 := hide L1
  clear KM L1 b1
  dsimp only
  go_wp2_with fail
  refine HKM.out.mono ?_
  rintro e w2 ⟨A2, c2, rfl, o2, b2⟩
  have C2 : Hid (Below w1.heap.size w1 w2) := hide b2
  have O2 := hide o2
  have q2 := hk.out w2 (B1.out.trans (C2.out.mono B1.out.size))
  have KM := KQ.out w2 (HB.out.trans ((B1.out.trans (C2.out.mono B1.out.size)).mono HB.out.size))
  unfold MakeS at KM
  rw [← HE.out, ← HL.out] at KM
  have HKQ := hide KM
  clear KM b2 o2 q1
  dsimp only
  go_wp2_with fail
  refine HKQ.out.mono ?_
  rintro e w3 ⟨A3, c3, rfl, o3, b3⟩
  have C3 : Hid (Below w1.heap.size w1 w3) := hide (C2.out.trans (b3.mono C2.out.size))
  have O3 := hide o3
  have P3 : Hid (OwnB w3 w1.heap.size (.slice A2 L.length c2) L) := hide (O2.out.on6 b3)
  have cx := P3.out.cv6
  have cy := O3.out.cv6
  have HLW := hide (fun (w4 : World) (b : Below w1.heap.size w1 w4) => HL1.out.below b HL1.out.lt)
  have HBW := hide (fun (w4 : World) (b : Below w1.heap.size w1 w4) => (HB.out.trans ((B1.out.trans (b.mono B1.out.size)).mono HB.out.size) : Below w.heap.size w w4))
  have KK := hide (fun (w4 : World) (b : Below w1.heap.size w1 w4) => kept_any A c W.heap.size D w.heap.size w4 HC.out (by have := HN.out; omega) (HDD.out w4 (HBW.out w4 b)) (HLW.out w4 b))
  clear b3 o3 q2 HKQ HKM
  dsimp only
  go_wp2_with fail
  refine (KK.out w3 C3.out).mono ?_
  rintro e w3' ⟨rfl, rfl⟩
  clear cx cy
  by_cases hE0 : E = 0
  · subst hE0
    have h0 : mkE t f D = 0 := HE.out.symm
    have hl65 : L.length ≤ 65535 := by rw [HL.out]; exact made_len ls ld h0
    obtain ⟨m1, m2, m3⟩ := made_seen ls ld h0
    rw [← HL.out] at m1 m2 m3
    have HM := hide (And.intro m1 (And.intro m2 m3))
    have H65 := hide hl65
    clear h0 hl65 m1 m2 m3
    dsimp only
    go_wp2_with fail
    refine (spoil_any w3 w1.heap.size A2 L.length c2 P3.out.x).mono ?_
    rintro e w4 ⟨rfl, gr4, -⟩
    have C4 : Hid (Below w1.heap.size w1 w4) := hide (C3.out.grown gr4 C3.out.size (fun k hk => (World.ownsRow.lt P3.out k hk).1))
    have O4 : Hid (OwnB w4 w2.heap.size (.slice A3 L.length c3) L) := hide (World.ownsRow.kept O3.out gr4 (by
      rcases O3.out.2 with ⟨e, -⟩ | ⟨g, cap, cur, e, hb5, -⟩
      · exact .inl (by rw [e]; rfl)
      · refine .inr fun e2 => ?_
        rw [e] at e2
        have h5 := (World.ownsRow.lt O2.out g (by rw [← e2]; rfl)).2
        omega))
    obtain ⟨A', c', hv', hlc, hby, -, -⟩ := O4.out.shape
    cases hv'
    have KT := tof_any w4 w4.heap.size A3 L c3 hlc (by have := H65.out; omega) hby (Nat.le_refl _)
    have HKT := hide KT
    clear KT hlc hby gr4
    dsimp only
    go_wp2_with fail
    refine HKT.out.mono ?_
    rintro e w5 ⟨X5, rfl, b5, -, hok⟩
    rw [HM.out.1] at hok ⊢
    have V5 := hok rfl
    rw [HM.out.2.1, HM.out.2.2] at V5
    have C5 : Hid (Below w1.heap.size w1 w5) := hide (C4.out.trans (b5.mono C4.out.size))
    have h5s := V5.size
    have h5o := V5.one
    obtain ⟨w6, hw6⟩ : ∃ w6, w5.alloc (.cells X5 54) = w6 := ⟨_, rfl⟩
    have r6 : w6.heap[w5.heap.size]? = some (.cells X5 54 (0, 0)) := by rw [← hw6]; exact heap_alloc_new w5 _
    have b6 : Below w5.heap.size w5 w6 := by rw [← hw6]; exact (Below.refl _ _).alloc (Nat.le_refl _) _
    have C6 : Hid (Below w1.heap.size w1 w6) := hide (C5.out.trans (b6.mono C5.out.size))
    have q6 := hk.out w6 (B1.out.trans (C6.out.mono B1.out.size))
    obtain ⟨c37, c38⟩ := V5.cells r6
    have x3 := V5.tup
    obtain ⟨XT, hXT⟩ : ∃ XT, XT = (tupL t).toArray := ⟨_, rfl⟩
    rw [← hXT] at x3
    have hVT : TuV XT t := ⟨hXT, ls, ld⟩
    have heq : ∀ W', (binOp .eql 52 (.agg XT) (.agg X)).run Try.prog W' = .ok (.bool true) W' := fun W' => by
      rw [eql_tu W' XT X t t hVT HX.out, (sameT_iff _ _).2 rfl]
    clear hok V5 b5 b6 hXT hVT
    dsimp only
    go_wp2_with fail
    refine (KK.out w6 C6.out).mono ?_
    rintro e w6' ⟨rfl, rfl⟩
    dsimp only
    go_wp2_with fail
    refine (known6_any _).mono ?_
    rintro e w7 ⟨rfl, b7⟩
    have C7 : Hid (Below w.heap.size w w7) := hide ((HBW.out w6 C6.out).trans (b7.mono (HBW.out w6 C6.out).size))
    clear b7
    dsimp only
    go_wp2
    go_ret
    exact ⟨rfl, C7.out⟩
  · have hE1 : (E != 0) = true := by simpa using hE0
    dsimp only
    go_wp2_with fail
    refine (known6_any _).mono ?_
    rintro e w7 ⟨rfl, b7⟩
    have C7 : Hid (Below w.heap.size w w7) := hide ((HBW.out w3 C3.out).trans (b7.mono (HBW.out w3 C3.out).size))
    clear b7
    dsimp only
    go_wp2
    go_ret
    exact ⟨rfl, C7.out⟩
end Go.Proofs.Ytcfckhdohcaffaa

end
