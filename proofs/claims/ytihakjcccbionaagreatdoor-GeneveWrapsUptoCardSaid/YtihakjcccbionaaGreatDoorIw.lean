/-
  The walks of header.parseSix and header.Parse.
-/
import Derived.Test.YtihakjcccbionaaGreatDoorIv
namespace Go.Proofs.YtihakjcccbionaaGreatDoor
open Go.RowKit
attribute [local go_sem ↓] exec_span exec_put exec_build heap_alloc_new heap_old
attribute [local go_sem] spanQ_ptr spanC_some heap_of_drew heap_of_drewN rs_arr rs_ad rs_ip rs_rip putAt_ptr putOk_ptr oldOk_some World.setRow_alloc_new
set_option maxRecDepth 100000
set_option linter.unusedVariables false
set_option linter.unusedSimpArgs false

/-- a packet of six of which nothing else is told. -/
def mIp (sv dv : Bool) (a b c d : Int) (S D : List UInt8) : Ip := ⟨true, sv, S, dv, D, a, b, c, 0, false, d, none, 0, 0, none, 0, 0⟩
theorem built_ip6 (a b c d : Int) : Tryz.prog.built 51 [(0, .bool true), (3, .int .i64 a), (4, .int .i64 b), (5, .int .i64 c), (8, .int .i64 d)] = some (ipL (mIp false false a b c d (List.replicate 16 0) (List.replicate 16 0))).toArray := by kernel_rfl
theorem set_sv (dv : Bool) (a b c d : Int) (S D : List UInt8) : (ipL (mIp false dv a b c d S D)).toArray.setIfInBounds 1 (.bool true) = (ipL (mIp true dv a b c d S D)).toArray := by
  rw [List.setIfInBounds_toArray]; rfl
theorem set_dv (sv : Bool) (a b c d : Int) (S D : List UInt8) (hS : S.length = 16) : (ipL (mIp sv false a b c d S D)).toArray.setIfInBounds 18 (.bool true) = (ipL (mIp sv true a b c d S D)).toArray := by
  rw [List.setIfInBounds_toArray]
  congr 1
  simp only [ipL, mIp, List.set_cons_succ]
  rw [show 17 = (adL sv S).length + 0 by rw [lenI_adL hS], List.set_append_right _ _ (by omega), Nat.add_sub_cancel_left]
  rfl
theorem splice_src6 (a b c d : Int) (S D : List UInt8) (h : S.length ≤ 16) : splice (ipL (mIp true true a b c d (List.replicate 16 0) D)) 2 (S.map byteV) = ipL (mIp true true a b c d (pad16 S) D) := by
  unfold splice ipL mIp adL pad16
  simp only [List.cons_append, List.take_succ_cons, List.take_zero, List.nil_append, List.length_map, List.cons.injEq, true_and]
  rw [Nat.add_comm 2 S.length, List.drop_succ_cons, List.drop_succ_cons, List.drop_append_of_le_length (by simpa using h), ← List.map_drop, List.drop_replicate, List.map_append, List.append_assoc]
  rfl
theorem splice_dst6 (a b c d : Int) (S D : List UInt8) (hS : S.length = 16) (h : D.length ≤ 16) : splice (ipL (mIp true true a b c d S (List.replicate 16 0))) 19 (D.map byteV) = ipL (mIp true true a b c d S (pad16 D)) := by
  have e : ∀ X : List UInt8, ipL (mIp true true a b c d S X) = (.bool true :: .bool true :: S.map byteV) ++ (.bool true :: (X.map byteV ++ ipT (mIp true true a b c d S X))) := fun X => rfl
  have eT : ∀ X Y : List UInt8, ipT (mIp true true a b c d S X) = ipT (mIp true true a b c d S Y) := fun X Y => rfl
  rw [e, e, eT (List.replicate 16 0) (pad16 D)]
  generalize ipT (mIp true true a b c d S (pad16 D)) = T
  have e0 : ((.bool true :: .bool true :: S.map byteV : List Value)).length = 18 := by simp [hS]
  generalize (.bool true :: .bool true :: S.map byteV : List Value) = P at e0
  unfold splice pad16
  rw [List.take_append, e0, List.take_of_length_le (l := P) (by omega), List.drop_append, e0, List.drop_of_length_le (l := P) (by omega)]
  simp only [List.length_map]
  rw [show 19 - 18 = 1 from rfl, show 19 + D.length - 18 = D.length + 1 by omega, List.drop_succ_cons, List.take_succ_cons, List.take_zero, List.drop_append_of_le_length (by simpa using h), ← List.map_drop, List.drop_replicate, List.map_append]
  simp
theorem mIp_ok (sv dv : Bool) (a b c d : Int) (S D : List UInt8) (hS : S.length = 16) (hD : D.length = 16) : IpV (ipL (mIp sv dv a b c d S D)).toArray (mIp sv dv a b c d S D) := ⟨rfl, hS, hD⟩
theorem and_tos {N : Nat} (h : N < 4294967296) : bits BinOp.and IntKind.i64 ((N : Int) / 1048576) 255 = ((N / 1048576 % 256 : Nat) : Int) := by
  have e := i64_and_nat (N / 1048576) 255 (by omega) (by omega)
  have e2 := Nat.and_two_pow_sub_one_eq_mod (N / 1048576) 8
  simp only [show (2 : Nat) ^ 8 - 1 = 255 from rfl, show (2 : Nat) ^ 8 = 256 from rfl] at e2
  rw [e2] at e
  rw [← e, show (255 : Int) = ((255 : Nat) : Int) from rfl]
  congr 1
theorem and_lab {N : Nat} (h : N < 4294967296) : bits BinOp.and IntKind.i64 (N : Int) 1048575 = ((N % 1048576 : Nat) : Int) := by
  have e := i64_and_nat N 1048575 (by omega) (by omega)
  have e2 := Nat.and_two_pow_sub_one_eq_mod N 20
  simp only [show (2 : Nat) ^ 20 - 1 = 1048575 from rfl, show (2 : Nat) ^ 20 = 1048576 from rfl] at e2
  rw [e2] at e
  exact e
/-- what is wrong with bytes as a packet of six. -/
def p6E (l : List UInt8) : Int := if l.length < 40 then 10 else if l.length - 40 < nmB l 4 2 then 10 else if nmB l 4 2 < l.length - 40 then 11 else 0
def p6H (l : List UInt8) (ad : Option Addr) (cd : Nat) : Ip :=
  ⟨true, true, pad16 ((l.drop 8).take 16), true, pad16 ((l.drop 24).take 16), nmB l 6 1, nmB l 7 1, ((nmB l 0 4 / 1048576 % 256 : Nat) : Int), 0, false, ((nmB l 0 4 % 1048576 : Nat) : Int), none, 0, 0, ad, l.length - 40, cd⟩
def Pkt6 (w w' : World) (l : List UInt8) (X : Array Value) : Prop := ∃ ad cd, IpV X (p6H l ad cd) ∧ Gave w w' ad cd (l.drop 40)
def P6 (w : World) (l : List UInt8) (e : Ending) (w' : World) : Prop := ∃ X, e = .returned (.tuple #[.agg X, .int .i64 (p6E l)]) ∧ Below w.heap.size w w' ∧ (p6E l ≠ 0 → X = (ipL (nIp 0 0 0 0 false)).toArray) ∧ (p6E l = 0 → Pkt6 w w' l X)
theorem p6_errZ {w W : World} {l : List UInt8} {E : Int} {Z : Array Value} (hZ : Z = (ipL (nIp 0 0 0 0 false)).toArray) (hE : p6E l = E) (h0 : E ≠ 0) (hb : Below w.heap.size w W) : P6 w l (.returned (.tuple #[.agg Z, .int .i64 E])) W :=
  ⟨_, by rw [hE], hb, fun _ => hZ, fun h => absurd (hE.symm.trans h) h0⟩
def Ask6 (w : World) (g G : Nat) (A : Option Addr) (l : List UInt8) (c K : Nat) (wx : World) (S : List UInt8) : Prop := ∃ k r, RdS g A l c wx k r ∧ RdI l (K + 16) k r ∧ S.length ≤ 16 ∧ (K + 16 ≤ l.length → S = (l.drop K).take 16) ∧ Frm w wx ∧ G < wx.heap.size
def Ask6S (w : World) (g G : Nat) (A : Option Addr) (l : List UInt8) (c : Nat) (p q r s : Int) (wx : World) : Prop := ∃ S, Ask6 w g G A l c 8 wx S ∧ wx.heap[G]? = some (.cells (ipL (mIp true true p q r s (pad16 S) (List.replicate 16 0))).toArray 51 (0, 0))
def Ask6D (w : World) (g G : Nat) (A : Option Addr) (l : List UInt8) (c : Nat) (p q r s : Int) (S : List UInt8) (wx : World) : Prop := ∃ D, Ask6 w g G A l c 24 wx D ∧ wx.heap[G]? = some (.cells (ipL (mIp true true p q r s (pad16 S) (pad16 D))).toArray 51 (0, 0))

set_option maxHeartbeats 4000000 in
theorem parse6_any (w : World) (B : Nat) (A : Option Addr) (l : List UInt8) (c : Nat) (hlc : l.length ≤ c) (hn : l.length ≤ 140737488420864) (hb : Byt w B A l) (hB : B ≤ w.heap.size) :
    Calls Tryz.prog 58 #[.slice A l.length c] w fun e w' => P6 w l e w' := by
  have HN := hide (fun W (hb' : Below w.heap.size w W) => newS W B A l c hn (hb.keep fun p hp => hb'.cell (by omega)) (Nat.le_trans hB hb'.size))
  obtain ⟨n, hln⟩ : ∃ n, n = l.length := ⟨_, rfl⟩
  have HL := hide hln
  have hnl := hide hn
  rw [← hln] at HN hlc hn ⊢
  clear hln hb
  go_enter Tryz.func58, Tryz.ntmps58
  go_wp2_with fail
  refine (HN.out _ ((Below.refl _ w).alloc (Nat.le_refl _) _)).mono ?_
  rintro e w1 ⟨g, A', c', rfl, hq, hc', hA', hgw, hb1⟩
  have hgw' : w.heap.size < g := by simp at hgw; omega
  have B1 : Hid (Frm w w1) := hide ⟨((Below.refl _ w).alloc (Nat.le_refl _) _).trans (hb1.mono (by simp)), (hb1.block _ (by simp)).trans (heap_alloc_new w _)⟩
  have Q1 := hide hq
  have I1 : Hid (RdI l 0 0 0) := hide (.inl ⟨rfl, rfl, Nat.zero_le _⟩)
  have G1 : Hid (w1.grownBy w1 (some g)) := hide (World.grownBy.refl _ _)
  have HC := hide hc'
  have HG := hide hgw'
  clear hq hc' hA' hgw hb1 hgw'
  go_wp2_with fail
  refine (numI w1 4 Q1.out I1.out (by decide) (by decide) (by rw [← HL.out]; exact HC.out) hnl.out).mono ?_
  rintro e w2 ⟨N1, k1, r1, rfl, hq, hi, hN, hv, hg⟩
  have Q2 := hide hq
  have I2 : Hid (RdI l 4 k1 r1) := hide hi
  have V1 : Hid (4 ≤ l.length → N1 = numS ((l.drop 0).take 4)) := hide hv
  have G2 := hide (grown_trans G1.out hg)
  have b1 : N1 < 4294967296 := by simpa using hN
  clear hq hi hN hv hg Q1 G1 I1
  go_wp2_with fail
  refine (numI w2 2 Q2.out I2.out (by decide) (by decide) (by rw [← HL.out]; exact HC.out) hnl.out).mono ?_
  rintro e w3 ⟨N2, k2, r2, rfl, hq, hi, hN, hv, hg⟩
  have Q3 := hide hq
  have I3 : Hid (RdI l 6 k2 r2) := hide hi
  have V2 : Hid (6 ≤ l.length → N2 = numS ((l.drop 4).take 2)) := hide hv
  have G3 := hide (grown_trans G2.out hg)
  have b2 : N2 < 65536 := by simpa using hN
  clear hq hi hN hv hg Q2 G2 I2
  go_wp2_with fail
  refine (numI w3 1 Q3.out I3.out (by decide) (by decide) (by rw [← HL.out]; exact HC.out) hnl.out).mono ?_
  rintro e w4 ⟨N3, k3, r3, rfl, hq, hi, hN, hv, hg⟩
  have Q4 := hide hq
  have I4 : Hid (RdI l 7 k3 r3) := hide hi
  have V3 : Hid (7 ≤ l.length → N3 = numS ((l.drop 6).take 1)) := hide hv
  have G4 := hide (grown_trans G3.out hg)
  have b3 : N3 < 256 := by simpa using hN
  clear hq hi hN hv hg Q3 G3 I3
  go_wp2_with fail
  refine (numI w4 1 Q4.out I4.out (by decide) (by decide) (by rw [← HL.out]; exact HC.out) hnl.out).mono ?_
  rintro e w5 ⟨N4, k4, r4, rfl, hq, hi, hN, hv, hg⟩
  have Q5 := hide hq
  have I5 : Hid (RdI l 8 k4 r4) := hide hi
  have V4 : Hid (8 ≤ l.length → N4 = numS ((l.drop 7).take 1)) := hide hv
  have G5 := hide (grown_trans G4.out hg)
  have b4 : N4 < 256 := by simpa using hN
  clear hq hi hN hv hg Q4 G4 I4
  have hto := and_tos b1
  have hla := and_lab b1
  obtain ⟨T, hT⟩ : ∃ T, T = N1 / 1048576 % 256 := ⟨_, rfl⟩
  obtain ⟨Lb, hLb⟩ : ∃ T, T = N1 % 1048576 := ⟨_, rfl⟩
  rw [← hT] at hto
  rw [← hLb] at hla
  have HT := hide hT
  have HLb := hide hLb
  obtain ⟨X, hX⟩ : ∃ X, X = (ipL (mIp false false N3 N4 T Lb (List.replicate 16 0) (List.replicate 16 0))).toArray := ⟨_, rfl⟩
  have hbl := built_ip6 N3 N4 T Lb
  rw [← hX] at hbl
  have hXV : IpV X (mIp false false N3 N4 T Lb (List.replicate 16 0) (List.replicate 16 0)) := by rw [hX]; exact mIp_ok _ _ _ _ _ _ _ _ (by simp) (by simp)
  have hXs : X.size = 43 := hXV.size
  have hXo : allOne X = true := hXV.one
  have HX := hide hXV
  clear hX hXV hT hLb
  go_upto_region 5 with (fail)
  have hq9 := Q5.out.below ((Below.refl w5.heap.size w5).alloc (Nat.le_refl _) (.cells X 51))
  have hr9 := heap_alloc_new w5 (.cells X 51)
  have hb9 : Frm w (w5.alloc (.cells X 51)) := (B1.out.grown G5.out HG.out).below ((Below.refl _ _).alloc (Nat.le_refl _) _)
  obtain ⟨G, hGe⟩ : ∃ G, G = w5.heap.size := ⟨_, rfl⟩
  have hgG : g < G := by rw [hGe]; exact Q5.out.rd.lt
  have hXe : X = (ipL (mIp false false N3 N4 T Lb (List.replicate 16 0) (List.replicate 16 0))).toArray := HX.out.eq
  have hXV := HX.out
  rw [← hGe] at hr9 ⊢
  generalize w5.alloc (.cells X 51) = W9 at hq9 hr9 hb9 ⊢
  have k1 := (hXV.cells hr9).c1
  have k18 := (hXV.cells hr9).c18
  have f1 := frozen_of_row W9 G 1 _ _ hr9
  have f18 := frozen_of_row W9 G 18 _ _ hr9
  rw [hXe] at hr9
  have hrA := heap_setCell_same W9 G 1 _ _ (.bool true) hr9
  rw [set_sv] at hrA
  have hrB := heap_setCell_same (W9.setCell ⟨G, 1, none⟩ (.bool true)) G 18 _ _ (.bool true) hrA
  rw [set_dv _ _ _ _ _ _ _ (by simp)] at hrB
  have hgA := grown_trans (grown_set W9 G 1 (.bool true)) (grown_set (W9.setCell ⟨G, 1, none⟩ (.bool true)) G 18 (.bool true))
  have hqB := hq9.keep hgA hgG
  have hbB := hb9.grown hgA (by have := HG.out; omega)
  have Q10 := hide hqB
  have R10 := hide hrB
  have B10 := hide hbB
  have HgG := hide hgG
  clear hq9 hr9 hb9 hgG hGe Q5 G5 B1 hXe HX hbl hXs hXo hXV hrA hrB hgA hqB hbB
  go_upto_region 6 with (fail)
  generalize (W9.setCell ⟨G, 1, none⟩ (.bool true)).setCell ⟨G, 18, none⟩ (.bool true) = W10 at Q10 R10 B10 ⊢
  clear k1 k18 f1 f18
  go_cut [] from 37 to 42 (fun wx => Ask6S w g G A' l c' N3 N4 T Lb wx)
  case first =>
    have q0 := Q10.out.below (Below.refl _ _).drew
    go_region_law (first
      | (go_simp; go_at_call 53; refine (takeI W10.drew 16 q0 I5.out (by rw [← HL.out]; exact HC.out) hnl.out).mono ?_; rintro e wT ⟨b, Ab, cb, kT, rT, rfl, hbyT, hcbT, -, -, hqT, hiT, hblT, hbvT, hgT⟩
         have hrT : wT.heap[G]? = some (.cells (ipL (mIp true true N3 N4 T Lb (List.replicate 16 0) (List.replicate 16 0))).toArray 51 (0, 0)) := (hgT.block G (Array.getElem?_eq_some_iff.1 R10.out).1 (by intro e; cases e; have := HgG.out; omega)).trans R10.out
         have hfT := (B10.out.below (Below.refl _ _).drew).grown hgT HG.out
         have hkT := HgG.out
         have hpT : True := trivial
         have RT := hide hrT
         clear hrT)
      | (refine step_copy_splice rfl (.tmp 39) (.tmp 41) 28 28 rfl 5 Tryz.underlying28 (by kernel_rfl) (some ⟨G, 2, none⟩) Ab 16 16 b.length cb rfl rfl G 2 (ipL (mIp true true N3 N4 T Lb (List.replicate 16 0) (List.replicate 16 0))) 51 RT.out (b.map byteV) (by rw [List.length_map]; exact (Nat.min_eq_left (by omega)).symm) (fun hp => ⟨rfl, hbyT.srcs (by simpa using hp)⟩) (by rw [List.length_map]; simp [ipL, ipT, mIp, adL, hpT]; omega) (byteV_one b) G wT (Below.refl _ _) (Nat.le_refl _) ?_; intro wC hgC hbC)
      | fail)
    have hrC := hgC.out
    rw [splice_src6 _ _ _ _ b _ (by omega)] at hrC
    have hfin : Ask6S w g G A' l c' N3 N4 T Lb wC := ⟨b, ⟨kT, rT, asked_reader hqT hbC hkT, hiT, hblT, hbvT, hfT.at hbC (by have := HG.out; omega), (Array.getElem?_eq_some_iff.1 hrC).1⟩, hrC⟩
    clear hgC hbC hrC hqT hiT hblT hbvT hfT hgT hbyT RT hkT q0 hpT
    try go_wp2_with fail
    go_meet
    exact hfin
  case rest =>
    obtain ⟨S, ⟨k9, r9, hq, hi, hS4, hSv, hf, hGl⟩, hr⟩ := hcut
    have Q11 := hide hq
    have I10 := hide hi
    have F11 := hide hf
    have R11 := hide hr
    have HSl := hide hS4
    have HSv := hide hSv
    clear hq hi hf hr hS4 hSv hGl Q10 R10 B10 I5
    go_upto_region 7 with (fail)
    go_cut [] from 43 to 48 (fun wx => Ask6D w g G A' l c' N3 N4 T Lb S wx)
    case first =>
      have q0 := Q11.out.below (Below.refl _ _).drew
      go_region_law (first
        | (go_simp; go_at_call 53; refine (takeI wc.drew 16 q0 I10.out (by rw [← HL.out]; exact HC.out) hnl.out).mono ?_; rintro e wT ⟨b, Ab, cb, kT, rT, rfl, hbyT, hcbT, -, -, hqT, hiT, hblT, hbvT, hgT⟩
           have hrT : wT.heap[G]? = some (.cells (ipL (mIp true true N3 N4 T Lb (pad16 S) (List.replicate 16 0))).toArray 51 (0, 0)) := (hgT.block G (Array.getElem?_eq_some_iff.1 R11.out).1 (by intro e; cases e; have := HgG.out; omega)).trans R11.out
           have hfT := (F11.out.below (Below.refl _ _).drew).grown hgT HG.out
           have hkT := HgG.out
           have hpT : (pad16 S).length = 16 := len_pad16 (by have := HSl.out; omega)
           have RT := hide hrT
           clear hrT)
        | (refine step_copy_splice rfl (.tmp 45) (.tmp 47) 28 28 rfl 5 Tryz.underlying28 (by kernel_rfl) (some ⟨G, 19, none⟩) Ab 16 16 b.length cb rfl rfl G 19 (ipL (mIp true true N3 N4 T Lb (pad16 S) (List.replicate 16 0))) 51 RT.out (b.map byteV) (by rw [List.length_map]; exact (Nat.min_eq_left (by omega)).symm) (fun hp => ⟨rfl, hbyT.srcs (by simpa using hp)⟩) (by rw [List.length_map]; simp [ipL, ipT, mIp, adL, hpT]; omega) (byteV_one b) G wT (Below.refl _ _) (Nat.le_refl _) ?_; intro wC hgC hbC)
        | fail)
      have hrC := hgC.out
      rw [splice_dst6 _ _ _ _ _ b hpT (by omega)] at hrC
      have hfin : Ask6D w g G A' l c' N3 N4 T Lb S wC := ⟨b, ⟨kT, rT, asked_reader hqT hbC hkT, hiT, hblT, hbvT, hfT.at hbC (by have := HG.out; omega), (Array.getElem?_eq_some_iff.1 hrC).1⟩, hrC⟩
      clear hgC hbC hrC hqT hiT hblT hbvT hfT hgT hbyT RT hkT q0 hpT
      try go_wp2_with fail
      go_meet
      exact hfin
    case rest =>
      obtain ⟨D, ⟨k10, r10, hq, hi, hD4, hDv, hf, hGl⟩, hr⟩ := hcut
      have HDl := hide hD4
      have HDv := hide hDv
      have t0 := takeI wc N2 hq hi (by rw [← HL.out]; exact HC.out) hnl.out
      have hFc := hide hf
      have hRc := hide hr
      clear hq hi hD4 hDv hf hr hGl Q11 I10 F11 R11
      go_wp2_with fail
      (with_reducible refine t0.mono ?_)
      clear t0
      rintro e w7 ⟨Dt, ad, cd, k7, r7, rfl, hbyD, hcD, hnD, hfD, hq7, hi7, hlD, hvD, hg7⟩
      have hR7 : w7.heap[G]? = _ := (hg7.block G (Array.getElem?_eq_some_iff.1 hRc.out).1 (by intro e; cases e; have := HgG.out; omega)).trans hRc.out
      have hF7 := hFc.out.grown hg7 HG.out
      have hGw6 := (Array.getElem?_eq_some_iff.1 hRc.out).1
      have hgG2 := HgG.out
      have hV7 : IpV (ipL (mIp true true N3 N4 T Lb (pad16 S) (pad16 D))).toArray (mIp true true N3 N4 T Lb (pad16 S) (pad16 D)) := mIp_ok _ _ _ _ _ _ _ _ (len_pad16 (by have := HSl.out; omega)) (len_pad16 (by have := HDl.out; omega))
      have k42 := (hV7.cells hR7).c42
      have f42 := frozen_of_row w7 G 42 _ _ hR7
      have hne7 : ∀ a, ad = some a → a.block ≠ G := fun a e => by have := hfD a e; omega
      have hR8 := heap_setCell_same w7 G 42 _ _ (.slice ad Dt.length cd) hR7
      rw [ip_set42 _ hV7.ls hV7.ld] at hR8
      have hg78 := grown_set w7 G 42 (.slice ad Dt.length cd)
      have hF8 := hF7.grown hg78 (by have := HG.out; omega)
      have hbD8 := hbyD.other (Nat.le_refl _) hg78 hne7
      have hQ8 := hq7.keep hg78 HgG.out
      have hsz8 : (w7.setCell ⟨G, 42, none⟩ (.slice ad Dt.length cd)).heap.size = w7.heap.size := by simp
      obtain ⟨X8, hX8⟩ : ∃ X, X = (ipL { mIp true true N3 N4 T Lb (pad16 S) (pad16 D) with ad := ad, nd := Dt.length, cd := cd }).toArray := ⟨_, rfl⟩
      have hV8 : IpV X8 { mIp true true N3 N4 T Lb (pad16 S) (pad16 D) with ad := ad, nd := Dt.length, cd := cd } := ⟨hX8, hV7.ls, hV7.ld⟩
      have hR8' : (w7.setCell ⟨G, 42, none⟩ (.slice ad Dt.length cd)).heap[G]? = some (.cells X8 51 (0, 0)) := by rw [hX8]; exact hR8
      obtain ⟨Z, hZ⟩ : ∃ Z, Z = (ipL (nIp 0 0 0 0 false)).toArray := ⟨_, rfl⟩
      have hbl0 := built_ip0
      rw [← hZ] at hbl0
      have hZs : Z.size = 43 := by rw [hZ]; exact (nIp_ok 0 0 0 0 false).size
      have hZo : allOne Z = true := by rw [hZ]; exact (nIp_ok 0 0 0 0 false).one
      have hR08 : (w7.setCell ⟨G, 42, none⟩ (.slice ad Dt.length cd)).heap[w.heap.size]? = some (.cells Z 51 (0, 0)) := by rw [hZ]; exact hF8.2
      have HZ := hide hZ
      obtain ⟨m, hm⟩ : ∃ m, m = Dt.length := ⟨_, rfl⟩
      rw [← hm] at hF8 hbD8 hQ8 hsz8 hR8' hR08 hV8 ⊢
      have HM := hide hm
      generalize hw8 : w7.setCell ⟨G, 42, none⟩ (.slice ad m cd) = w8 at hF8 hbD8 hQ8 hsz8 hR8' hR08
      have hEn := end_any w8 g A' l.length c' k7 r7 hQ8.rd hnl.out hQ8.le
      have HEn := hide hEn
      have F8 := hide hF8
      have BD8 := hide hbD8
      have Q8 := hide hQ8
      have S8 := hide hsz8
      have V8' := hide hV8
      have HnD := hide hnD
      have HfD := hide hfD
      have HvD := hide hvD
      have HcD := hide hcD
      have HI7 := hide hi7
      have HG7 := hide hg7.size
      have HGw6 := hide hGw6
      have HR8 := hide hR8'
      have HR08 := hide hR08
      clear hbyD hcD hnD hfD hq7 hi7 hlD hvD hg7 hR7 hF7 hV7 hne7 hR8 hg78 hF8 hbD8 hsz8 hV8 hX8 hGw6 hgG2 hQ8 hEn hZ hm hR8' hR08 hRc hFc
      go_wp2_with fail
      refine HEn.out.mono ?_
      rintro e w9 ⟨rfl, nd, rfl⟩
      clear hw8 k42 f42
      have f9 := F8.out.below (below_drewN (Below.refl _ w8) nd)
      have r9' : (w8.drewN nd).heap[G]? = some (.cells X8 51 (0, 0)) := HR8.out
      have r09 : (w8.drewN nd).heap[w.heap.size]? = some (.cells Z 51 (0, 0)) := HR08.out
      have bd9 := BD8.out.drewN nd
      have sz9 : (w8.drewN nd).heap.size = w7.heap.size := S8.out
      generalize w8.drewN nd = w9 at f9 r9' r09 bd9 sz9 ⊢
      have F9 := hide f9
      have BD9 := hide bd9
      have S9 := hide sz9
      clear f9 bd9 sz9 F8 BD8 S8 Q8 HEn HR8 HR08
      have hV8 := V8'.out
      have hX8s : X8.size = 43 := hV8.size
      have hX8o : allOne X8 = true := hV8.one
      have hX80 : X8.extract 0 43 = X8 := hV8.x0
      clear hV8
      have fin : ∀ E : Int, E ≠ 0 → p6E l = E → endS l.length k7 r7 = E → True := fun _ _ _ _ => trivial
      rcases HI7.out with ⟨rfl, hk7, hle7⟩ | ⟨rfl, hle7⟩
      · have hN2 : Hid (N2 = nmB l 4 2) := hide (V2.out (by omega))
        by_cases hlt : k7 < l.length
        · have he : endS l.length k7 0 = 11 := by unfold endS; rw [if_neg (by simp), if_pos hlt]
          have hE : p6E l = 11 := by unfold p6E; rw [if_neg (by omega), if_neg (by rw [← hN2.out]; omega), if_pos (by rw [← hN2.out]; omega)]
          have HE := hide hE
          rw [he]
          clear he hE
          go_wp2
          have hrow := setRow_heap w9 w.heap.size Z Z _ _ r09
          refine bodyPost_ret (results_cell_tmp (fn := Tryz.f58) Tryz.results58 _ _ w.heap.size 51 Z (0, 0) _ rfl hrow Tryz.underlying51 rfl (by rw [hZs]; exact info_ip)) rfl ?_
          exact p6_errZ HZ.out HE.out (by decide) (below_setRow F9.out.1 (Nat.le_refl _) _)
        · have he : endS l.length k7 0 = 0 := by unfold endS; rw [if_neg (by simp), if_neg hlt]
          have hE : p6E l = 0 := by unfold p6E; rw [if_neg (by omega), if_neg (by rw [← hN2.out]; omega), if_neg (by rw [← hN2.out]; omega)]
          have HE := hide hE
          have HK : Hid (40 + N2 = l.length) := hide (by omega)
          rw [he]
          clear he hE hlt hk7 hle7
          go_wp2
          have hrow := setRow_heap w9 w.heap.size Z X8 _ _ r09
          refine bodyPost_ret (results_cell_tmp (fn := Tryz.f58) Tryz.results58 _ _ w.heap.size 51 X8 (0, 0) _ rfl hrow Tryz.underlying51 rfl (by rw [hX8s]; exact info_ip)) rfl ?_
          have hgs := setRow_grown w9 w.heap.size X8
          have hzs : (w9.setRow w.heap.size X8).heap.size = w9.heap.size := size_setRow _ _ _
          have g1 := HG.out
          have g2 := HGw6.out
          have g3 := HgG.out
          have g4 := HG7.out
          have g5 := S9.out
          have hk := HK.out
          have e1 : N1 = nmB l 0 4 := V1.out (by omega)
          have e3 : N3 = nmB l 6 1 := V3.out (by omega)
          have e4 : N4 = nmB l 7 1 := V4.out (by omega)
          have eS := HSv.out (by omega)
          have eD := HDv.out (by omega)
          have eT := HvD.out (by omega)
          have eT2 : Dt = l.drop 40 := by rw [eT, List.take_of_length_le (by rw [List.length_drop]; omega)]
          have em : m = l.length - 40 := by rw [HM.out, eT2, List.length_drop]
          have hH : ({ mIp true true N3 N4 T Lb (pad16 S) (pad16 D) with ad := ad, nd := m, cd := cd } : Ip) = p6H l ad cd := by
            unfold p6H
            rw [← e1, ← e3, ← e4, ← eS, ← eD, ← HT.out, ← HLb.out, ← em]
            rfl
          refine ⟨X8, by rw [HE.out]; rfl, below_setRow F9.out.1 (Nat.le_refl _) _, fun h => absurd HE.out h, fun _ => ⟨ad, cd, by rw [← hH]; exact V8'.out, ?_⟩⟩
          rw [← eT2]
          exact ⟨(BD9.out.other (by omega) hgs (fun a e => by have := HfD.out a e; omega)).more (by omega), HcD.out, HnD.out, fun a e => by have := HfD.out a e; omega⟩
      · have he : endS l.length k7 10 = 10 := by unfold endS; rw [if_pos (by decide)]
        have hE : p6E l = 10 := by
          unfold p6E
          by_cases h40 : l.length < 40
          · rw [if_pos h40]
          · have hN2 : N2 = nmB l 4 2 := V2.out (by omega)
            rw [if_neg h40, if_pos (by rw [← hN2]; omega)]
        have HE := hide hE
        rw [he]
        clear he hE
        go_wp2
        have hrow := setRow_heap w9 w.heap.size Z Z _ _ r09
        refine bodyPost_ret (results_cell_tmp (fn := Tryz.f58) Tryz.results58 _ _ w.heap.size 51 Z (0, 0) _ rfl hrow Tryz.underlying51 rfl (by rw [hZs]; exact info_ip)) rfl ?_
        exact p6_errZ HZ.out HE.out (by decide) (below_setRow F9.out.1 (Nat.le_refl _) _)

/-- what is wrong with bytes as a packet. -/
def pkE (l : List UInt8) : Int := if l.length = 0 then 10 else if (l.getD 0 0).toNat / 16 = 4 then p4E l else if (l.getD 0 0).toNat / 16 = 6 then p6E l else 13
def PktA (w w' : World) (l : List UInt8) (X : Array Value) : Prop := ((l.getD 0 0).toNat / 16 = 4 ∧ p4E l = 0 ∧ Pkt4 w w' l X) ∨ ((l.getD 0 0).toNat / 16 = 6 ∧ p6E l = 0 ∧ Pkt6 w w' l X)
def PkA (w : World) (l : List UInt8) (e : Ending) (w' : World) : Prop := ∃ X, e = .returned (.tuple #[.agg X, .int .i64 (pkE l)]) ∧ Below w.heap.size w w' ∧ (pkE l ≠ 0 → X = (ipL (nIp 0 0 0 0 false)).toArray) ∧ (pkE l = 0 → PktA w w' l X)
theorem Gave.row {w w1 w2 : World} {a : Option Addr} {c : Nat} {b : List UInt8} (h : Gave w1 w2 a c b) (hw : w.heap.size < w1.heap.size) (X : Array Value) : Gave w (w2.setRow w.heap.size X) a c b := by
  have hzs : (w2.setRow w.heap.size X).heap.size = w2.heap.size := size_setRow _ _ _
  exact ⟨(h.1.other (Nat.le_refl _) (setRow_grown w2 w.heap.size X) (fun x e => by have := h.2.2.2 x e; omega)).more (by omega), h.2.1, h.2.2.1, fun x e => by have := h.2.2.2 x e; omega⟩

set_option maxHeartbeats 4000000 in
theorem parse_any (w : World) (B : Nat) (A : Option Addr) (l : List UInt8) (c : Nat) (hlc : l.length ≤ c) (hn : l.length ≤ 140737488420864) (hb : Byt w B A l) (hB : B ≤ w.heap.size) :
    Calls Tryz.prog 23 #[.slice A l.length c] w fun e w' => PkA w l e w' := by
  obtain ⟨Z, hZ⟩ : ∃ Z, Z = (ipL (nIp 0 0 0 0 false)).toArray := ⟨_, rfl⟩
  have hbl0 := built_ip0
  have hr1 : (w.alloc (.cells (ipL (nIp 0 0 0 0 false)).toArray 51)).heap[w.heap.size]? = some (.cells Z 51 (0, 0)) := by rw [hZ]; exact heap_alloc_new w _
  have hz1 : w.heap.size < (w.alloc (.cells (ipL (nIp 0 0 0 0 false)).toArray 51)).heap.size := by simp
  have hb1' : Below w.heap.size w (w.alloc (.cells (ipL (nIp 0 0 0 0 false)).toArray 51)) := (Below.refl _ _).alloc (Nat.le_refl _) _
  have hb1 : Byt (w.alloc (.cells (ipL (nIp 0 0 0 0 false)).toArray 51)) B A l := hb.keep fun p hp => hb1'.cell (by omega)
  have hB1 : B ≤ (w.alloc (.cells (ipL (nIp 0 0 0 0 false)).toArray 51)).heap.size := by simp; omega
  rw [← hZ] at hbl0
  have hZs : Z.size = 43 := by rw [hZ]; exact (nIp_ok 0 0 0 0 false).size
  have hZo : allOne Z = true := by rw [hZ]; exact (nIp_ok 0 0 0 0 false).one
  have HZ := hide hZ
  have Hz1 := hide hz1
  clear hZ hz1
  by_cases hnil : l.length = 0
  · have HE : Hid (pkE l = 10) := hide (by unfold pkE; rw [if_pos hnil])
    have HB1 := hide hb1'
    rw [hnil]
    clear hnil hb hb1' hb1 hB1 hlc hn
    go_enter Tryz.func23, Tryz.ntmps23
    generalize hW1 : w.alloc (.cells (ipL (nIp 0 0 0 0 false)).toArray 51) = W1 at HB1 hr1 Hz1
    have HW : Hid (w.alloc (.cells (ipL (nIp 0 0 0 0 false)).toArray 51) = W1) := hide hW1
    clear hW1
    go_upto_region 1 with (fail)
    change Code.wp _ _ _ _ (w.alloc (.cells (ipL (nIp 0 0 0 0 false)).toArray 51))
    rw [HW.out]
    go_wp2
    have hrow := setRow_heap W1 w.heap.size Z Z _ _ hr1
    refine bodyPost_ret (results_cell_tmp (fn := Tryz.f23) Tryz.results23 _ _ w.heap.size 51 Z (0, 0) _ rfl hrow Tryz.underlying51 rfl (by rw [hZs]; exact info_ip)) rfl ?_
    exact ⟨Z, by rw [HE.out]; rfl, below_setRow HB1.out (Nat.le_refl _) _, fun _ => HZ.out, fun h => by rw [HE.out] at h; cases h⟩
  · obtain ⟨x, hx⟩ : ∃ x, x = l.getD 0 0 := ⟨_, rfl⟩
    have hx255 : x.toNat ≤ 255 := by have := x.toNat_lt; omega
    obtain ⟨bb, off, hA, hbB, hcell⟩ := hb (by omega)
    have hcx : (w.alloc (.cells (ipL (nIp 0 0 0 0 false)).toArray 51)).cell? ⟨bb, off, none⟩ = some (.int .u8 (x.toNat : Int)) := by
      have h1 := hcell 0 (by omega)
      rw [Nat.add_zero] at h1
      rw [hb1'.cell (show bb < w.heap.size by omega), h1, hx]
      congr 3
      rw [List.getD_eq_getElem?_getD, List.getElem?_eq_getElem (show 0 < l.length by omega)]; rfl
    have hlp : (0 : Int) < (l.length : Int) := by omega
    have hl0 : ((l.length : Int) == 0) = false := by
      have h0 : ¬ ((l.length : Int) = 0) := by omega
      exact beq_false_of_ne h0
    have HB1 := hide hb1'
    have HX := hide hx
    clear hb1' hcell
    subst hA
    go_enter Tryz.func23, Tryz.ntmps23
    generalize hW1 : w.alloc (.cells (ipL (nIp 0 0 0 0 false)).toArray 51) = W1 at HB1 hr1 Hz1 hb1 hB1 hcx
    have HW : Hid (w.alloc (.cells (ipL (nIp 0 0 0 0 false)).toArray 51) = W1) := hide hW1
    clear hW1
    go_upto_region 1 with (fail)
    change Code.wp _ _ _ _ (w.alloc (.cells (ipL (nIp 0 0 0 0 false)).toArray 51))
    rw [HW.out]
    obtain ⟨v, hv⟩ : ∃ v, v = x.toNat / 16 := ⟨_, rfl⟩
    have hvx : (x.toNat : Int) / 16 = (v : Int) := by omega
    have hv16 : v < 16 := by omega
    have HV : Hid ((l.getD 0 0).toNat / 16 = v) := hide (by rw [← HX.out, hv])
    clear hv hx
    by_cases h4 : v = 4
    · subst h4
      go_wp2_with fail
      refine (parse4_any W1 B _ l c hlc hn hb1 hB1).mono ?_
      rintro e w2 ⟨X, rfl, hb2, hx0, hx1⟩
      have hr2 : w2.heap[w.heap.size]? = some (.cells Z 51 (0, 0)) := (hb2.block _ Hz1.out).trans hr1
      have hX : X.size = 43 ∧ allOne X = true := by
        by_cases h0 : p4E l = 0
        · obtain ⟨ao, co, ad, cd, hv, -⟩ := hx1 h0
          exact ⟨hv.size, hv.one⟩
        · rw [hx0 h0]; exact ⟨(nIp_ok 0 0 0 0 false).size, (nIp_ok 0 0 0 0 false).one⟩
      obtain ⟨hXs, hXo⟩ := hX
      have HB2 := hide hb2
      have HX0 := hide hx0
      have HX1 := hide hx1
      have HE : Hid (pkE l = p4E l) := hide (by unfold pkE; rw [if_neg hnil, if_pos HV.out])
      clear hb2 hx0 hx1
      go_wp2
      have hrow := setRow_heap w2 w.heap.size Z X _ _ hr2
      refine bodyPost_ret (results_cell_tmp (fn := Tryz.f23) Tryz.results23 _ _ w.heap.size 51 X (0, 0) _ rfl hrow Tryz.underlying51 rfl (by rw [hXs]; exact info_ip)) rfl ?_
      have hgs := setRow_grown w2 w.heap.size X
      have hzs : (w2.setRow w.heap.size X).heap.size = w2.heap.size := size_setRow _ _ _
      refine ⟨X, by rw [HE.out]; rfl, below_setRow (HB1.out.trans (HB2.out.mono HB1.out.size)) (Nat.le_refl _) _, fun h => HX0.out (by rw [← HE.out]; exact h), fun h => ?_⟩
      have h0 := HX1.out (by rw [← HE.out]; exact h)
      obtain ⟨ao, co, ad, cd, h1, h2, h3⟩ := h0
      exact .inl ⟨HV.out, HE.out.symm.trans h, ao, co, ad, cd, h1, h2.row Hz1.out X, h3.row Hz1.out X⟩
    · by_cases h6 : v = 6
      · subst h6
        go_wp2_with fail
        refine (parse6_any W1 B _ l c hlc hn hb1 hB1).mono ?_
        rintro e w2 ⟨X, rfl, hb2, hx0, hx1⟩
        have hr2 : w2.heap[w.heap.size]? = some (.cells Z 51 (0, 0)) := (hb2.block _ Hz1.out).trans hr1
        have hX : X.size = 43 ∧ allOne X = true := by
          by_cases h0 : p6E l = 0
          · obtain ⟨ad, cd, hv, -⟩ := hx1 h0
            exact ⟨hv.size, hv.one⟩
          · rw [hx0 h0]; exact ⟨(nIp_ok 0 0 0 0 false).size, (nIp_ok 0 0 0 0 false).one⟩
        obtain ⟨hXs, hXo⟩ := hX
        have HB2 := hide hb2
        have HX0 := hide hx0
        have HX1 := hide hx1
        have HE : Hid (pkE l = p6E l) := hide (by unfold pkE; rw [if_neg hnil, if_neg (by rw [HV.out]; exact h4), if_pos HV.out])
        clear hb2 hx0 hx1
        go_wp2
        have hrow := setRow_heap w2 w.heap.size Z X _ _ hr2
        refine bodyPost_ret (results_cell_tmp (fn := Tryz.f23) Tryz.results23 _ _ w.heap.size 51 X (0, 0) _ rfl hrow Tryz.underlying51 rfl (by rw [hXs]; exact info_ip)) rfl ?_
        have hgs := setRow_grown w2 w.heap.size X
        have hzs : (w2.setRow w.heap.size X).heap.size = w2.heap.size := size_setRow _ _ _
        refine ⟨X, by rw [HE.out]; rfl, below_setRow (HB1.out.trans (HB2.out.mono HB1.out.size)) (Nat.le_refl _) _, fun h => HX0.out (by rw [← HE.out]; exact h), fun h => ?_⟩
        have h0 := HX1.out (by rw [← HE.out]; exact h)
        obtain ⟨ad, cd, h1, h2⟩ := h0
        exact .inr ⟨HV.out, HE.out.symm.trans h, ad, cd, h1, h2.row Hz1.out X⟩
      · have HE : Hid (pkE l = 13) := hide (by unfold pkE; rw [if_neg hnil, if_neg (by rw [HV.out]; exact h4), if_neg (by rw [HV.out]; exact h6)])
        have hv4 : ((v : Int) == 4) = false := by simp; omega
        have hv6 : ((v : Int) == 6) = false := by simp; omega
        go_wp2
        have hrow := setRow_heap W1 w.heap.size Z Z _ _ hr1
        refine bodyPost_ret (results_cell_tmp (fn := Tryz.f23) Tryz.results23 _ _ w.heap.size 51 Z (0, 0) _ rfl hrow Tryz.underlying51 rfl (by rw [hZs]; exact info_ip)) rfl ?_
        exact ⟨Z, by rw [HE.out]; rfl, below_setRow HB1.out (Nat.le_refl _) _, fun _ => HZ.out, fun h => by rw [HE.out] at h; cases h⟩
end Go.Proofs.YtihakjcccbionaaGreatDoor
