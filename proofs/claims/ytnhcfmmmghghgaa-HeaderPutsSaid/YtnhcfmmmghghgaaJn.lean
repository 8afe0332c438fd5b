/-
  The walks of the statement HeaderSum and of the document's Size.
-/
import Derived.Test.YtnhcfmmmghghgaaJm
import Derived.Test.YtnhcfmmmghghgaaJl
namespace Go.Proofs.Ytnhcfmmmghghgaa
open Go.RowKit
attribute [local go_sem ↓] exec_span exec_put exec_build heap_alloc_new heap_old
attribute [local go_sem] spanQ_ptr spanC_some heap_of_drew heap_of_drewN rs_arr rs_ad rs_ip rs_rip putAt_ptr putOk_ptr oldOk_some World.setRow_alloc_new
set_option maxRecDepth 100000
set_option linter.unusedVariables false
set_option linter.unusedSimpArgs false

set_option maxHeartbeats 1000000 in
theorem refsizeH_any (w : World) (X : Array Value) (h : Ip) (x : IpV X h) (hn : h.no ≤ 140737488355328) :
    Calls Try.prog 13 #[.agg X] w fun e w' => e = .returned (.int .i64 (sizeH h)) ∧ Below w.heap.size w w' := by
  have hxs := x.size
  obtain ⟨W, hW, h1, hz, hb⟩ := one_block w (.cells X 27)
  have hc := x.cells h1
  have d0 := hc.c0
  have d41 := hc.c41
  have H := hide (show sizeH h = if h.v then 40 else 20 + (h.no : Int) from rfl)
  have hB := hide hb
  obtain ⟨v, hv⟩ : ∃ v, v = h.v := ⟨_, rfl⟩
  rw [← hv] at d0 H
  clear hc hz hb h1 x hxs hv
  cases v
  · go_enter Try.func13, Try.ntmps13
    go_wp2
    go_ret
    exact ⟨ret_int (by rw [H.out]; rfl), hB.out⟩
  · go_enter Try.func13, Try.ntmps13
    go_wp2
    go_ret
    exact ⟨ret_int (by rw [H.out]; rfl), hB.out⟩
theorem putG {w : World} {X : Array Value} {h : Ip} {O D : List UInt8} (p : InP w X h O D) (W1 : World) (g1 g2 : Nat) (L1 : Lentd W1 g1 O) (L2 : Lentd W1 g2 D) :
    Calls Try.prog 8 #[.agg (ipL (givH h g1 g2)).toArray] W1 fun e w' => ∃ A c, e = .returned (.tuple #[.slice A (pktB h O D).length c, .int .i64 (pktE h)]) ∧ OwnB w' W1.heap.size (.slice A (pktB h O D).length c) (pktB h O D) ∧ Below W1.heap.size W1 w' :=
  putH_any W1 (ipL (givH h g1 g2)).toArray (givH h g1 g2) ⟨rfl, p.x.ls, p.x.ld⟩ O D (L1.byt L1.lt) p.ol (L2.byt L2.lt) p.dl (Nat.le_trans p.om (by decide)) (Nat.le_trans p.dm (by decide))

set_option maxHeartbeats 4000000 in
theorem headerSum_any (w : World) (X : Array Value) (h : Ip) (O D : List UInt8) (p : InP w X h O D) :
    Calls Try.prog 6 #[.agg X] w fun e w' => e = .returned (.bool true) ∧ Below w.heap.size w w' := by
  obtain ⟨W, hW, h1, hz, hb⟩ := one_block w (.cells X 27)
  have hxs := p.x.size
  have hxr := p.x.x0
  have KG := hide (fun (W1 : World) (b : Below w.heap.size w W1) => (p.below b).given)
  have KP := hide (putG p)
  have KS := hide (fun (W1 : World) => refsizeH_any W1 X h p.x (by have := p.om; omega))
  have HX := hide p
  obtain ⟨E, hE⟩ : ∃ E, E = pktE h := ⟨_, rfl⟩
  obtain ⟨L, hL⟩ : ∃ L, L = pktB h O D := ⟨_, rfl⟩
  rw [← hE, ← hL] at KP
  have HE := hide hE
  have HL := hide hL
  have HB := hide hb
  have HZ := hide hz
  have H1 := hide h1
  have c0 := (p.x.cells h1).c0
  clear hE hL hb hz p
  go_enter Try.func6, Try.ntmps6
  go_wp2_with fail
  refine (KG.out W HB.out).mono ?_
  rintro e w4 ⟨g1, g2, rfl, L1, L2, -, -, b4⟩
  go_wp2_with fail
  refine (KP.out w4 g1 g2 L1 L2).mono ?_
  rintro e w5 ⟨A, c, rfl, ho, b5⟩
  have B5 : Hid (Below W.heap.size W w5) := hide (b4.trans (b5.mono b4.size))
  have r5 := (B5.out.block w.heap.size (by have := HZ.out; omega)).trans H1.out
  have c5 := (HX.out.x.cells r5).c0
  have HC := hide c0
  clear c0 b4 b5 L1 L2 KG KP h1
  dsimp only
  by_cases hE0 : E = 0
  · subst hE0
    obtain ⟨v, hv⟩ : ∃ v, v = h.v := ⟨_, rfl⟩
    rw [← hv] at c5
    have HV := hide hv
    clear hv
    cases v
    · have ls := HX.out.x.ls
      have ld := HX.out.x.ld
      have hl : L.length = 20 + h.no + h.nd := by
        rw [HL.out, pk_len HE.out.symm ls ld HX.out.ol HX.out.dl]; unfold sizeN; rw [← HV.out]; rfl
      have hno : h.no ≤ 40 := ((right_facts (pktE_zero HE.out.symm).1).2.2.2.2 HV.out.symm).2.1
      have hsh : sizeH h = ((20 + h.no : Nat) : Int) := by unfold sizeH; rw [← HV.out]; simp
      have hLe : L = hd4 h O ++ D := by rw [HL.out]; exact pkt4_eq HE.out.symm HV.out.symm ls ld HX.out.ol HX.out.dl
      have hlO : (hd4 h O).length = 20 + h.no := by rw [len_hd4 h O ls ld, HX.out.ol]
      have hF : nmB L 2 2 = 20 + h.no + h.nd := (four_of HE.out.symm HV.out.symm (by rw [hLe, pre_app _ _ _ (by omega)])).n
      have hsum : L.take (20 + h.no) = hd4 h O := by rw [hLe, List.take_left' hlO]
      have hin := hd4_sum h O hno
      obtain ⟨A', c', hv', hlc, hby, hnil, -⟩ := ho.shape
      cases hv'
      obtain ⟨b, off, hA, hbl, hcell⟩ := hby (by omega)
      have z2 : (2 : Nat) < L.length := by omega
      have z3 : (3 : Nat) < L.length := by omega
      obtain ⟨x2, hx2⟩ : ∃ x, x = L[2] := ⟨_, rfl⟩
      obtain ⟨x3, hx3⟩ : ∃ x, x = L[3] := ⟨_, rfl⟩
      have hx : (x2.toNat : Int) * 256 + (x3.toNat : Int) = (L.length : Int) := by
        have e : (L.drop 2).take 2 = [x2, x3] := by
          rw [List.drop_eq_getElem_cons z2, List.drop_eq_getElem_cons z3, hx2, hx3]; rfl
        unfold nmB at hF
        rw [e] at hF
        have : numS [x2, x3] = x2.toNat * 256 + x3.toNat := by simp [numS]
        omega
      have d2 := hcell 2 z2
      have d3 := hcell 3 z3
      rw [← hx2] at d2
      rw [← hx3] at d3
      have hp := hby.front (20 + h.no)
      have I0 := fun (W1 : World) (b1 : Below w5.heap.size w5 W1) => refinet_any A c (L.take (20 + h.no)) w5.heap.size W1 (by rw [hsum, hlO]; omega) (by rw [hsum, hlO]; omega) (hp.below b1)
      rw [hsum, hlO, hin] at I0
      subst hA
      have HI := hide I0
      have hkeep := hide (fun (W1 : World) (b1 : Below w5.heap.size w5 W1) => (⟨(World.cell?_of_block (w := w5) (b1.block b hbl)).trans d2, (World.cell?_of_block (w := w5) (b1.block b hbl)).trans d3⟩ : W1.cell? ⟨b, off + 2, none⟩ = some (.int .u8 (x2.toNat : Int)) ∧ W1.cell? ⟨b, off + 3, none⟩ = some (.int .u8 (x3.toNat : Int))))
      have hn140 : 20 + h.no ≤ L.length := by omega
      have hlm : L.length ≤ 65535 := by
        have := (pktE_zero HE.out.symm).2
        rw [HL.out, pk_len HE.out.symm ls ld HX.out.ol HX.out.dl]; exact this
      have HLE := hide hLe
      have HF := hide hF
      have HLN := hide hl
      obtain ⟨n, hn⟩ : ∃ n, n = 20 + h.no := ⟨_, rfl⟩
      rw [← hn] at hsh HI hn140
      rw [hsh] at KS
      have hn0 : n ≤ 60 := by omega
      clear hLe hF hsum hin hp I0 hby hcell hl hx2 hx3 ho hlO hno hsh hn d2 d3
      go_wp2_with fail
      refine (KS.out w5).mono ?_
      rintro e w6 ⟨rfl, b6⟩
      obtain ⟨d2, d3⟩ := hkeep.out w6 b6
      dsimp only
      have hb6 : Hid (b < w6.drew.heap.size) := hide (by have := b6.drew.size; omega)
      have h6 := hide (hkeep.out w6.drew b6.drew)
      have B6 : Hid (Below W.heap.size W w6) := hide (B5.out.trans (b6.mono B5.out.size))
      have HI6 := hide (HI.out w6.drew b6.drew)
      clear HI hkeep b6
      have i1 : (0 : Int) ≤ (n : Int) := by omega
      have u2 := x2.toNat_lt
      have u3 := x3.toNat_lt
      have hy2 : IntKind.i64.wrap (x2.toNat : Int) = (x2.toNat : Int) := IntWalk.i64_in _ (by omega)
      have hy3 : IntKind.i64.wrap (x3.toNat : Int) = (x3.toNat : Int) := IntWalk.i64_in _ (by omega)
      have hw1 : IntKind.i64.wrap ((x2.toNat : Int) * 256) = (x2.toNat : Int) * 256 := IntWalk.i64_in _ (by omega)
      have hw2 : IntKind.i64.wrap ((x2.toNat : Int) * 256 + (x3.toNat : Int)) = (L.length : Int) := by rw [hx]; exact IntWalk.i64_in _ (by omega)
      clear hx u2 u3
      have i2 : (n : Int) ≤ (c : Int) := by omega
      have i3 : (2 : Int) < (L.length : Int) := by omega
      have i4 : (3 : Int) < (L.length : Int) := by omega
      have i5 : (n : Int) ≤ (L.length : Int) := by omega
      go_upto_region 5 with (fail)
      go_region_held3 (fun w' => w'.cell? ⟨b, off + 2, none⟩ = some (.int .u8 (x2.toNat : Int)) ∧ w'.cell? ⟨b, off + 3, none⟩ = some (.int .u8 (x3.toNat : Int)))
        (first
          | exact ⟨d2, d3⟩
          | exact h6.out
          | exact k7.out
          | fail)
        (first
          | (go_at_call 20; (with_reducible refine HI6.out.mono ?_); rintro e w7 ⟨rfl, rfl⟩)
          | (go_at_call 14; (with_reducible refine (knownI_any w6.drew).mono ?_); rintro e w8 ⟨rfl, b8⟩; have B8 : Hid (Below W.heap.size W w8) := hide ((B6.out.drew).trans (b8.mono B6.out.drew.size)); have k7 := hide (⟨(World.cell?_of_block (w := w6.drew) (b8.block b hb6.out)).trans h6.out.1, (World.cell?_of_block (w := w6.drew) (b8.block b hb6.out)).trans h6.out.2⟩ : w8.cell? ⟨b, off + 2, none⟩ = some (.int .u8 (x2.toNat : Int)) ∧ w8.cell? ⟨b, off + 3, none⟩ = some (.int .u8 (x3.toNat : Int))))
          | fail)
      all_goals (
        go_wp2
        go_ret
        exact ⟨rfl, HB.out.trans (B8.out.mono HB.out.size)⟩)
    · go_wp2_with fail
      refine (knownI_any w5).mono ?_
      rintro e w6 ⟨rfl, b6⟩
      go_wp2
      go_ret
      exact ⟨rfl, HB.out.trans ((B5.out.trans (b6.mono B5.out.size)).mono HB.out.size)⟩
  · have hE1 : (E != 0) = true := by simpa using hE0
    go_wp2_with fail
    refine (knownI_any w5).mono ?_
    rintro e w6 ⟨rfl, b6⟩
    go_wp2
    go_ret
    exact ⟨rfl, HB.out.trans ((B5.out.trans (b6.mono B5.out.size)).mono HB.out.size)⟩
end Go.Proofs.Ytnhcfmmmghghgaa
