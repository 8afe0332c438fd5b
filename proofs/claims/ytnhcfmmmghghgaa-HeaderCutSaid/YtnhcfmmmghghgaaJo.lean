/-
  The walk of the statement HeaderCut.
-/
import Derived.Test.YtnhcfmmmghghgaaJn
namespace Go.Proofs.Ytnhcfmmmghghgaa
open Go.RowKit
attribute [local go_sem ↓] exec_span exec_put exec_build heap_alloc_new heap_old
attribute [local go_sem] spanQ_ptr spanC_some heap_of_drew heap_of_drewN rs_arr rs_ad rs_ip rs_rip putAt_ptr putOk_ptr oldOk_some World.setRow_alloc_new
set_option maxRecDepth 100000
set_option linter.unusedVariables false
set_option linter.unusedSimpArgs false

set_option maxHeartbeats 4000000 in
theorem headerCut_any (w : World) (X : Array Value) (h : Ip) (O D : List UInt8) (p : InP w X h O D) (k : Int) (A0 : Option Addr) (c0 : Nat) (T : List UInt8) (hT : T.length ≤ c0) (hTn : T.length ≤ 140737488351232) (hTb : Byt w w.heap.size A0 T) (hnil0 : A0 = none → c0 = 0) :
    Calls Try.prog 5 #[.agg X, .int .i64 k, .slice A0 T.length c0] w fun e w' => e = .returned (.bool true) ∧ Below w.heap.size w w' := by
  obtain ⟨W, hW, h1, hz, hb⟩ := one_block w (.cells X 27)
  have hxs := p.x.size
  have hxr := p.x.x0
  have KG := hide (fun (W1 : World) (b : Below w.heap.size w W1) => (p.below b).given)
  have KP := hide (putG p)
  have HX := hide p
  have HT := hide hTb
  have HN := hide hnil0
  obtain ⟨E, hE⟩ : ∃ E, E = pktE h := ⟨_, rfl⟩
  obtain ⟨L, hL⟩ : ∃ L, L = pktB h O D := ⟨_, rfl⟩
  rw [← hE, ← hL] at KP
  have HE := hide hE
  have HL := hide hL
  have HTn := hide hTn
  have HTc := hide hT
  have HBW := hide hb
  have HZ := hide hz
  clear hE hL p hTb hnil0 hTn hT hz hb
  go_enter Try.func5, Try.ntmps5
  go_wp2_with fail
  refine (KG.out W HBW.out).mono ?_
  rintro e w4 ⟨g1, g2, rfl, L1, L2, -, -, b4⟩
  go_wp2_with fail
  refine (KP.out w4 g1 g2 L1 L2).mono ?_
  rintro e w5 ⟨A, c, rfl, ho, b5⟩
  have B5 : Hid (Below w.heap.size w w5) := hide (HBW.out.trans ((b4.trans (b5.mono b4.size)).mono HBW.out.size))
  clear h1 b4 b5 L1 L2 KG KP
  dsimp only
  by_cases hE0 : E = 0
  · subst hE0
    have ls := HX.out.x.ls
    have ld := HX.out.x.ld
    have hl : L.length = sizeN h + h.nd := by rw [HL.out, pk_len HE.out.symm ls ld HX.out.ol HX.out.dl]
    have hlm : L.length ≤ 65535 := by rw [hl]; exact (pktE_zero HE.out.symm).2
    have hl0 : 20 ≤ L.length := by rw [hl]; unfold sizeN; split <;> omega
    obtain ⟨A', c', hv', hlc, hby, hnil, -⟩ := ho.shape
    cases hv'
    have hm := count_lt k (show 0 < L.length by omega)
    have KC := hide (fun (W1 : World) => count_any k L.length W1 (by omega) (by omega))
    obtain ⟨m, hmm⟩ : ∃ m, m = countS k L.length := ⟨_, rfl⟩
    rw [← hmm] at hm KC
    have htl : (L.take m).length = m := by rw [List.length_take]; omega
    have hcut : pkE (L.take m) = 10 := by rw [HL.out]; exact pk_cut HE.out.symm ls ld HX.out.ol HX.out.dl m (by rw [← HL.out]; exact hm)
    have P1 := fun (W1 : World) (b1 : Below w5.heap.size w5 W1) => parse_any W1 w5.heap.size A (L.take m) c (by rw [htl]; omega) (by rw [htl]; omega) ((hby.front m).below b1) b1.size
    rw [htl] at P1
    have HP1 := hide P1
    have HB := hide hby
    have HC := hide hcut
    have HNIL := hide hnil
    have HLC := hide hlc
    have e0 : ((L.length : Int) == 0) = false := by rw [beq_eq_false_iff_ne]; omega
    have i1 : (0 : Int) ≤ (m : Int) := by omega
    have i2 : (m : Int) ≤ (c : Int) := by omega
    have HLM := hide hlm
    have HL0 := hide hl0
    have HM := hide hm
    clear P1 hby hcut hl htl hmm ho hnil hlc hl0 hlm hm
    go_wp2_with fail
    refine (KC.out w5).mono ?_
    rintro e w6 ⟨rfl, rfl⟩
    dsimp only
    go_wp2_with fail
    refine (HP1.out w5 (Below.refl _ _)).mono ?_
    rintro e w6 ⟨Z, rfl, b6, hz6, -⟩
    have hZ0 := hz6 (by rw [HC.out]; decide)
    rw [HC.out]
    have hZs : Z.size = 43 := by rw [hZ0]; exact (nIp_ok 0 0 0 0 false).size
    have hZo : allOne Z = true := by rw [hZ0]; exact (nIp_ok 0 0 0 0 false).one
    clear hz6 hZ0
    have B6 : Hid (Below w.heap.size w w6) := hide (B5.out.trans (b6.mono B5.out.size))
    have hb6 := hide b6
    clear b6 KC HP1
    dsimp only
    by_cases hT0 : T.length = 0
    · have eT : ((T.length : Int) == 0) = true := by rw [beq_iff_eq]; omega
      go_wp2_with fail
      refine (knownI_any (w6.alloc (.cells Z 28))).mono ?_
      rintro e w7 ⟨rfl, b7⟩
      have B7 : Hid (Below w.heap.size w w7) := hide ((B6.out.alloc B6.out.size _).trans (b7.mono (B6.out.alloc B6.out.size (.cells Z 28)).size))
      clear b7
      go_wp2
      go_ret
      exact ⟨rfl, B7.out⟩
    · have eT : ((T.length : Int) == 0) = false := by rw [beq_eq_false_iff_ne]; omega
      have b66 : Below w6.heap.size w6 (w6.alloc (.cells Z 28)) := (Below.refl _ _).alloc (Nat.le_refl _) _
      have HT6 : Hid (Byt (w6.alloc (.cells Z 28)) w6.heap.size A0 T) := hide (((HT.out.below B6.out).more B6.out.size).below b66)
      have HB6 : Hid (Byt (w6.alloc (.cells Z 28)) w6.heap.size A L) := hide (((HB.out.below hb6.out).more hb6.out.size).below b66)
      have hz6 : Hid (w6.heap.size ≤ (w6.alloc (.cells Z 28)).heap.size) := hide b66.size
      have B66 := hide b66
      clear b66
      have hall : pkE (L ++ T) = 11 := by rw [HL.out, pk_on HE.out.symm ls ld HX.out.ol HX.out.dl, if_neg hT0]
      have HALL := hide hall
      clear hall
      go_wp2_with (at_builtin; refine wpList_app_bytes rfl (.tmp 48) (.tmp 49) rfl w6.heap.size (.slice none 0 0) [] L w6.heap.size c A rfl rfl (OwnB.nil _ _) (by exact HB6.out) HNIL.out (by have := HLM.out; simp; omega) (by exact hz6.out) ?_)
      intro v7 w7 hown7 hgr7 hat7
      have b7 : Below w6.heap.size w6 w7 := B66.out.grown hgr7 (by exact hz6.out) (fun k hk => by simp [Value.ownBlock] at hk)
      have HT7 : Hid (Byt w7 w6.heap.size A0 T) := hide (((HT.out.below B6.out).more B6.out.size).below b7)
      have HB7 := hide b7
      have HO7 : Hid (OwnB w7 w6.heap.size v7 L) := hide (by simpa using hown7)
      clear hown7 hgr7 hat7 b7
      go_wp2_with (at_builtin; refine wpList_app_bytes_wide rfl (.tmp 51) (.tmp 52) rfl w6.heap.size v7 L T w6.heap.size c0 A0 rfl rfl (by exact HO7.out) (by exact HT7.out) HN.out (by have := HLM.out; have := HTn.out; omega) (by exact HB7.out.size) ?_)
      intro v8 w8 hown8 hgr8
      have b8' : Below w6.heap.size w6 w8 := HB7.out.grown hgr8 HB7.out.size (fun k hk => (World.ownsRow.lt HO7.out k hk).1)
      obtain ⟨A8, c8, rfl, hl8, hby8, -, -⟩ := hown8.shape
      have P8 := parse_any w8 w8.heap.size A8 (L ++ T) c8 hl8 (by rw [List.length_append]; have := HLM.out; have := HTn.out; omega) hby8 (Nat.le_refl _)
      have B8 : Hid (Below w.heap.size w w8) := hide (B6.out.trans (b8'.mono B6.out.size))
      have HP8 := hide P8
      clear P8 hown8 hgr8 hby8 b8' hl8
      obtain ⟨N, hN⟩ : ∃ N, N = L ++ T := ⟨_, rfl⟩
      rw [← hN] at HP8 HALL ⊢
      clear hN
      go_wp2_with fail
      refine HP8.out.mono ?_
      rintro e w9 ⟨Z9, rfl, b9, hz9, -⟩
      have hZ0 := hz9 (by rw [HALL.out]; decide)
      rw [HALL.out]
      have hZs9 : Z9.size = 43 := by rw [hZ0]; exact (nIp_ok 0 0 0 0 false).size
      have hZo9 : allOne Z9 = true := by rw [hZ0]; exact (nIp_ok 0 0 0 0 false).one
      have B9 : Hid (Below w.heap.size w w9) := hide (B8.out.trans (b9.mono B8.out.size))
      clear hz9 hZ0 b9
      dsimp only
      go_wp2_with fail
      refine (knownI_any (w9.alloc (.cells Z9 28))).mono ?_
      rintro e w10 ⟨rfl, b10⟩
      have B10 : Hid (Below w.heap.size w w10) := hide ((B9.out.alloc B9.out.size _).trans (b10.mono (B9.out.alloc B9.out.size (.cells Z9 28)).size))
      clear b10
      go_wp2
      go_ret
      exact ⟨rfl, B10.out⟩
  · have hE1 : (E != 0) = true := by simpa using hE0
    go_wp2_with fail
    refine (knownI_any w5).mono ?_
    rintro e w6 ⟨rfl, b6⟩
    go_wp2
    go_ret
    exact ⟨rfl, B5.out.trans (b6.mono B5.out.size)⟩
end Go.Proofs.Ytnhcfmmmghghgaa
