/-
  The walks of the document's own Reader: bytes, zeros, a new one.
-/
import Derived.Test.YtgbmamahkpkdfaaRr
namespace Go.Proofs.Ytgbmamahkpkdfaa
open Go.RowKit
set_option maxRecDepth 100000
set_option linter.unusedVariables false

/-- where bytes leave the document's own Reader, what it answers, the error. -/
def takeQ (l : List UInt8) (k : Nat) (er m : Int) : Nat × List UInt8 × Int :=
  if fitE er (decide (0 ≤ m)) l.length k m = 0 then (k + m.toNat, (l.drop k).take m.toNat, 0) else (k, [], fitE er (decide (0 ≤ m)) l.length k m)
theorem fitE_zero {er : Int} {len k : Nat} {m : Int} (h : fitE er (decide (0 ≤ m)) len k m = 0) : er = 0 ∧ 0 ≤ m ∧ m ≤ (len : Int) - k := by
  unfold fitE at h
  by_cases he : er = 0
  · rw [if_neg (by simp [he])] at h
    by_cases h1 : decide (0 ≤ m) = false
    · rw [if_pos h1] at h; exact absurd h (by decide)
    · rw [if_neg h1] at h
      by_cases h2 : (len : Int) - k < m
      · rw [if_pos h2] at h; exact absurd h (by decide)
      · simp at h1; exact ⟨he, by omega, by omega⟩
  · rw [if_pos he] at h; exact absurd h he

set_option maxHeartbeats 2000000 in
theorem takeq_any (w : World) (g : Nat) (A : Option Addr) (l : List UInt8) (c k : Nat) (er m : Int) (h : Rr w g A l.length c k er) (hk : k ≤ l.length) (hl : l.length ≤ c) (hn : l.length ≤ 140737488355328) (hb : Byt w g A l) (hnil : A = none → c = 0) :
    Calls Try.prog 29 #[.pointer (some ⟨g, 0, none⟩), .int .i64 m] w fun e w' => (∃ v, e = .returned v ∧ OwnB w' w.heap.size v (takeQ l k er m).2.1) ∧ Rr w' g A l.length c (takeQ l k er m).1 (takeQ l k er m).2.2 ∧ w.grownBy w' (some g) := by
  have hF := fun ok => fits_q w g A l.length c k er m ok h hk hn
  by_cases hno : fitE er (decide (0 ≤ m)) l.length k m = 0
  · obtain ⟨rfl, hm0, hfit⟩ := fitE_zero hno
    obtain ⟨M, rfl⟩ : ∃ M : Nat, m = (M : Int) := ⟨m.toNat, by omega⟩
    have hT : takeQ l k 0 (M : Int) = (k + M, (l.drop k).take M, 0) := by unfold takeQ; rw [if_pos hno]; simp
    rw [hT]
    have hF1 := hF true
    rw [show fitE 0 true l.length k (M : Int) = 0 by unfold fitE; rw [if_neg (by simp), if_neg (by simp), if_neg (by omega)]] at hF1
    rw [decide_eq_true (rfl : (0 : Int) = 0)] at hF1
    have HF := hide hF1
    obtain ⟨r, hr⟩ : ∃ r, r = (l.drop k).take M := ⟨_, rfl⟩
    rw [← hr]
    have hrl : r.length = M := by rw [hr]; simp; omega
    have HRR := hide hr
    have HRL := hide hrl
    have HBY := hide hb
    have HNIL := hide hnil
    have hkm : k + M ≤ l.length := by omega
    have hM0 : (0 : Int) ≤ (M : Int) := by omega
    have hgl := h.lt
    have HGL := hide hgl
    clear hF hF1 hno hr hrl hT hnil hgl
    go_enter Try.func29, Try.ntmps29
    go_wp2_with fail
    refine HF.out.mono ?_
    rintro e w1 ⟨rfl, hR1, hg1⟩
    have HG1 := hide hg1
    have HR1 := hide hR1
    have HB1 := hide (HBY.out.row hg1)
    have d0 := hR1.c0
    have d1 := hR1.c1
    have hs1 : IntKind.i64.wrap ((k : Int) + (M : Int)) = (k : Int) + (M : Int) := by rw [IntKind.wrap_i64]; omega
    have hs2 : ((k : Int) + (M : Int)).toNat = k + M := by omega
    have hs3 : (0 : Int) ≤ (k : Int) + (M : Int) := by omega
    have hs4 : (k : Int) ≤ (k : Int) + (M : Int) := by omega
    have hs5 : (k : Int) + (M : Int) ≤ (c : Int) := by omega
    clear hg1 HF h hb hR1
    go_wp2_with fail
    go_still_tail 16, (by kernel_rfl)
    change wpList _ _ _ _ _ w1.drew
    obtain ⟨W2, hW2⟩ : ∃ W2, W2 = w1.drew := ⟨_, rfl⟩
    have HRW : Hid (Rr W2 g A l.length c k 0) := hide (by rw [hW2]; exact HR1.out.drewN 1)
    have HGW : Hid (w.grownBy W2 (some g)) := hide (by rw [hW2]; exact grown_drewN HG1.out 1)
    have hB2 : Byt W2 g A l := by rw [hW2]; exact HB1.out
    rw [← hW2]
    clear hW2 d0 d1
    have hS := hB2.sub k M c hl
    have hSn : (if c = k then A else Option.map (fun x => x.add k) A) = none → c - k = 0 := fun e => by
      by_cases hck : c = k
      · omega
      · rw [if_neg hck] at e
        cases A with
        | none => have := HNIL.out rfl; omega
        | some a => simp at e
    rw [← HRR.out] at hS
    generalize (if c = k then A else Option.map (fun x => x.add k) A) = A' at hS hSn ⊢
    have HS := hide hS
    have HSN := hide hSn
    have HRL2 : Hid (M = r.length) := hide HRL.out.symm
    clear hS hSn hB2
    rw [HRL2.out]
    go_wp2_with (at_builtin; refine wpList_app_bytes rfl (.tmp 12) (.tmp 27) rfl w.heap.size (.slice none 0 0) [] r g (c - k) A' rfl rfl (OwnB.nil _ _) (by exact HS.out) HSN.out (by have := HRL.out; simp; omega) HGW.out.size ?_)
    intro v5 w5 hown5 hgrow5 hat5
    have hR5 := HRW.out.grown hgrow5 (by simp [Value.ownBlock])
    have d1 := hR5.c1
    have e1 := hR5.fr 1
    have hR6 := hR5.setK (k + r.length)
    have hG6 : w.grownBy (w5.setCell ⟨g, 1, none⟩ (.int .i64 ((k + r.length : Nat) : Int))) (some g) := grown_trans HGW.out (grown_trans ⟨hgrow5.os, hgrow5.tape, hgrow5.output, hgrow5.size, fun i hi hr => hgrow5.block i hi (by simp [Value.ownBlock])⟩ (grown_set w5 g 1 _))
    have hO6 : OwnB (w5.setCell ⟨g, 1, none⟩ (.int .i64 ((k + r.length : Nat) : Int))) w.heap.size v5 r := hown5.kept (grown_set w5 g 1 _) (by
      rcases hown5.2 with ⟨e, _⟩ | ⟨g', cap, cur, e, hbg, _⟩
      · exact .inl (by rw [e]; rfl)
      · exact .inr (by have := HGL.out; rw [e]; simp [Value.ownBlock]; omega))
    rw [show (((k + r.length : Nat)) : Int) = (k : Int) + (r.length : Int) from by omega] at hR6 hG6 hO6
    have H1 := hide hR6
    have H2 := hide hG6
    have H3 := hide hO6
    have hs6 : (k : Int) + (r.length : Int) ≤ 140737488355328 := by have := HRL.out; omega
    clear hR6 hG6 hO6 hown5 hgrow5 hat5 hR5 hs1 hs2
    go_wp2
    go_ret
    exact ⟨⟨_, rfl, H3.out⟩, by rw [HRL2.out]; exact H1.out, H2.out⟩
  · have hT : takeQ l k er m = (k, [], fitE er (decide (0 ≤ m)) l.length k m) := by unfold takeQ; rw [if_neg hno]
    rw [hT]
    obtain ⟨E, hE⟩ : ∃ E, E = fitE er (decide (0 ≤ m)) l.length k m := ⟨_, rfl⟩
    have hF' := hF (decide (0 ≤ m))
    rw [← hE] at hF' hno ⊢
    rw [decide_eq_false hno] at hF'
    have HF := hide hF'
    clear hF hF' hE hT
    by_cases h1 : 0 ≤ m
    · have h1i : decide (0 ≤ m) = true := decide_eq_true h1
      rw [h1i] at HF
      go_enter Try.func29, Try.ntmps29
      go_wp2_with fail
      refine HF.out.mono ?_
      rintro e w1 ⟨rfl, hR1, hg1⟩
      go_wp2
      go_ret
      exact ⟨⟨_, rfl, OwnB.nil _ _⟩, hR1, hg1⟩
    · have h1i : decide (0 ≤ m) = false := decide_eq_false h1
      rw [h1i] at HF
      have h1' : ¬ (m ≥ 0) := h1
      go_enter Try.func29, Try.ntmps29
      go_wp2_with fail
      refine HF.out.mono ?_
      rintro e w1 ⟨rfl, hR1, hg1⟩
      go_wp2
      go_ret
      exact ⟨⟨_, rfl, OwnB.nil _ _⟩, hR1, hg1⟩

/-- where zeros leave the document's own Reader, the error. -/
def zeroQ (l : List UInt8) (k : Nat) (er m : Int) : Nat × Int :=
  if fitE er (decide (0 ≤ m)) l.length k m = 0 then (if ((l.drop k).take m.toNat).all (fun x => x == 0) = true then (k + m.toNat, 0) else (k, 11)) else (k, fitE er (decide (0 ≤ m)) l.length k m)

set_option maxHeartbeats 2000000 in
theorem zeroq_any (w : World) (g : Nat) (A : Option Addr) (l : List UInt8) (c k : Nat) (er m : Int) (h : Rr w g A l.length c k er) (hk : k ≤ l.length) (hl : l.length ≤ c) (hn : l.length ≤ 140737488355328) (hb : Byt w g A l) :
    Calls Try.prog 32 #[.pointer (some ⟨g, 0, none⟩), .int .i64 m] w fun e w' => e = .returned (.tuple #[]) ∧ Rr w' g A l.length c (zeroQ l k er m).1 (zeroQ l k er m).2 ∧ w.grownBy w' (some g) := by
  have hF := fun ok => fits_q w g A l.length c k er m ok h hk hn
  by_cases hno : fitE er (decide (0 ≤ m)) l.length k m = 0
  · obtain ⟨rfl, hm0, hfit⟩ := fitE_zero hno
    obtain ⟨M, rfl⟩ : ∃ M : Nat, m = (M : Int) := ⟨m.toNat, by omega⟩
    have hT : zeroQ l k 0 (M : Int) = if ((l.drop k).take M).all (fun x => x == 0) = true then (k + M, 0) else (k, 11) := by unfold zeroQ; rw [if_pos hno]; simp
    rw [hT]
    have hF1 := hF true
    rw [show fitE 0 true l.length k (M : Int) = 0 by unfold fitE; rw [if_neg (by simp), if_neg (by simp), if_neg (by omega)]] at hF1
    rw [decide_eq_true (rfl : (0 : Int) = 0)] at hF1
    have HF := hide hF1
    obtain ⟨r, hr⟩ : ∃ r, r = (l.drop k).take M := ⟨_, rfl⟩
    rw [← hr]
    have hrl : r.length = M := by rw [hr]; simp; omega
    obtain ⟨Z, hZ⟩ : ∃ Z, Z = if r.all (fun x => x == 0) = true then ((k + M, 0) : Nat × Int) else (k, 11) := ⟨_, rfl⟩
    rw [← hZ]
    have HZ := hide hZ
    have HRR := hide hr
    have HRL := hide hrl
    have HBY := hide hb
    have hkm : k + M ≤ l.length := by omega
    have hM0 : (0 : Int) ≤ (M : Int) := by omega
    clear hF hF1 hno hr hrl hT hZ
    go_enter Try.func32, Try.ntmps32
    go_wp2_with fail
    refine HF.out.mono ?_
    rintro e w1 ⟨rfl, hR1, hg1⟩
    have HG1 := hide hg1
    have HR1 := hide hR1
    have HB1 := hide (HBY.out.row hg1)
    clear hg1 hR1 HF h hb
    go_wp2_with fail
    go_loopw [4] (fun i wr => ∃ j : Nat, j ≤ M ∧ i = .int .i64 (j : Int) ∧ Hid (AllZero (r.take j)) ∧ ∃ q, wr = w1.drewN q) (fun i _ => M - (intOf i).toNat)
    case atStart => exact ⟨0, by omega, rfl, hide (fun i hi => by simp at hi), 0, rfl⟩
    case round =>
      obtain ⟨j, hj, rfl, hz, hq⟩ := hrel
      have hRw : Rr wr g A l.length c k 0 := by obtain ⟨q, rfl⟩ := hq; exact HR1.out.drewN q
      have hBw : Byt wr g A l := by obtain ⟨q, rfl⟩ := hq; exact HB1.out
      have hGw : w.grownBy wr (some g) := by obtain ⟨q, rfl⟩ := hq; exact grown_drewN HG1.out q
      have HQ := hide hq
      clear hq
      by_cases hlt : j < M
      · obtain ⟨b, off, hA, hbB, hcell⟩ := hBw (by omega)
        subst hA
        have hjr : j < r.length := by rw [HRL.out]; exact hlt
        obtain ⟨x, hx0⟩ : ∃ x, x = r[j] := ⟨_, rfl⟩
        have hxl : l[k + j]'(by omega) = x := by rw [hx0]; simp [HRR.out]
        have hc0 : wr.cell? ⟨b, off + (k + j), none⟩ = some (.int .u8 (x.toNat : Int)) := by rw [← hxl]; exact hcell (k + j) (by omega)
        have d0 := hRw.c0
        have d1 := hRw.c1
        have HX := hide hx0
        have hs1 : IntKind.i64.wrap ((k : Int) + (j : Int)) = (k : Int) + (j : Int) := by rw [IntKind.wrap_i64]; omega
        have hs2 : ((k : Int) + (j : Int)).toNat = k + j := by omega
        have hs3 : (0 : Int) ≤ (k : Int) + (j : Int) := by omega
        have hs4 : (k : Int) + (j : Int) < (l.length : Int) := by omega
        have hxb := x.toNat_lt
        by_cases hxz : x.toNat = 0
        · have hxe : ((x.toNat : Int) != 0) = false := by simp [hxz]
          have hz' : AllZero (r.take (j + 1)) := fun i hi => by
            rw [List.length_take] at hi
            rw [List.getElem_take]
            by_cases hij : i = j
            · subst hij
              have : r[i] = x := HX.out.symm
              rw [this]; exact UInt8.toNat_inj.1 hxz
            · have := hz.out i (by rw [List.length_take]; omega)
              rw [List.getElem_take] at this; exact this
          have HZ' := hide hz'
          clear hcell hx0 hxl hRw hBw hGw hz' hxz
          go_wp2
          go_quiet (fail)
          clear hs1 hs2
          go_wp2
          go_roundw
          case rel => exact ⟨j + 1, by omega, by go_num, HZ', by obtain ⟨q, hq⟩ := HQ.out; exact ⟨q + nq, by rw [hq, World.drewN_drewN]⟩⟩
          case measure => simp [intOf]; omega
        · have hxe : ((x.toNat : Int) != 0) = true := by simp only [bne_iff_ne, ne_eq]; omega
          have hno : ¬ r.all (fun x => x == 0) = true := fun hall => hxz (by
            have := (allZero_iff r).2 hall j hjr
            rw [HX.out, this]; rfl)
          have hZe : Z = (k, 11) := by rw [HZ.out, if_neg hno]
          have HRw := hide hRw
          have HGw := hide hGw
          have HZE := hide hZe
          clear hcell hx0 hxl hBw hz hxz hno hZe hRw hGw
          go_wp2
          go_quiet (fail)
          clear hs1 hs2
          have d2 := (HRw.out.drewN nq).c2
          have f2 := (HRw.out.drewN nq).fr 2
          have hR9 := (HRw.out.drewN nq).setE 11
          have hG9 := grown_trans HGw.out (grown_of_drewN (n := nq) (grown_set (wr.drewN nq) g 2 (.int .i64 11)))
          have H1 := hide hR9
          have H2 := hide hG9
          clear hR9 hG9
          go_wp2
          exact bodyPost_ret (results_none (fn := Try.f32) Try.results32 _ _ _) rfl ⟨rfl, by rw [HZE.out]; exact H1.out, H2.out⟩
      · obtain rfl : j = M := by omega
        have hfull : AllZero r := by
          have := hz.out
          rwa [List.take_of_length_le (by rw [HRL.out]; exact Nat.le_refl _)] at this
        have hZe : Z = (k + j, 0) := by rw [HZ.out, if_pos ((allZero_iff r).1 hfull)]
        have HZE := hide hZe
        have d1 := hRw.c1
        have e1 := hRw.fr 1
        have hR' := hRw.setK (k + j)
        have hg' : w.grownBy (wr.setCell ⟨g, 1, none⟩ (.int .i64 ((k + j : Nat) : Int))) (some g) := grown_trans hGw (grown_set wr g 1 _)
        rw [show (((k + j : Nat)) : Int) = (k : Int) + (j : Int) from by omega] at hR' hg'
        have H1 := hide hR'
        have H2 := hide hg'
        clear hR' hg' hfull hZe hlt hz
        go_wp2
        go_end0
        exact ⟨rfl, by rw [HZE.out]; exact H1.out, H2.out⟩
  · have hT : zeroQ l k er m = (k, fitE er (decide (0 ≤ m)) l.length k m) := by unfold zeroQ; rw [if_neg hno]
    rw [hT]
    obtain ⟨E, hE⟩ : ∃ E, E = fitE er (decide (0 ≤ m)) l.length k m := ⟨_, rfl⟩
    have hF' := hF (decide (0 ≤ m))
    rw [← hE] at hF' hno ⊢
    rw [decide_eq_false hno] at hF'
    have HF := hide hF'
    clear hF hF' hE hT
    by_cases h1 : 0 ≤ m
    · have h1i : decide (0 ≤ m) = true := decide_eq_true h1
      rw [h1i] at HF
      go_enter Try.func32, Try.ntmps32
      go_wp2_with fail
      refine HF.out.mono ?_
      rintro e w1 ⟨rfl, hR1, hg1⟩
      go_wp2
      exact bodyPost_ret (results_none (fn := Try.f32) Try.results32 _ _ _) rfl ⟨rfl, hR1, hg1⟩
    · have h1i : decide (0 ≤ m) = false := decide_eq_false h1
      rw [h1i] at HF
      have h1' : ¬ (m ≥ 0) := h1
      go_enter Try.func32, Try.ntmps32
      go_wp2_with fail
      refine HF.out.mono ?_
      rintro e w1 ⟨rfl, hR1, hg1⟩
      go_wp2
      exact bodyPost_ret (results_none (fn := Try.f32) Try.results32 _ _ _) rfl ⟨rfl, hR1, hg1⟩

set_option maxHeartbeats 1000000 in
/-- a new Reader of the document's own, of a copy of the bytes. -/
theorem ofq_any (w : World) (B : Nat) (A : Option Addr) (l : List UInt8) (c : Nat) (hn : l.length ≤ 140737488355328) (hb : Byt w B A l) (hB : B ≤ w.heap.size) (hnil : A = none → c = 0) :
    Calls Try.prog 25 #[.slice A l.length c] w fun e w' => ∃ g A' c', e = .returned (.pointer (some ⟨g, 0, none⟩)) ∧ Rr w' g A' l.length c' 0 0 ∧ Byt w' g A' l ∧ l.length ≤ c' ∧ (A' = none → c' = 0) ∧ w.heap.size ≤ g ∧ Below w.heap.size w w' := by
  go_enter Try.func25, Try.ntmps25
  go_wp2_with (at_builtin; refine wpList_app_bytes rfl (.tmp 4) (.tmp 5) rfl w.heap.size (.slice none 0 0) [] l B c A rfl rfl (OwnB.nil _ _) hb hnil (by simp; omega) (Nat.le_refl _) ?_)
  intro v1 w1 hown hg1 hat1
  obtain ⟨A', c', hv, hl', hby, hnil', _⟩ := hown.shape
  subst hv
  have hb1 : Below w.heap.size w w1 := (Below.refl _ _).grown hg1 (Nat.le_refl _) (fun k hk => by simp [Value.ownBlock] at hk)
  go_wp2
  go_ret
  refine ⟨w1.heap.size, A', c', rfl, ⟨heap_alloc_new w1 _⟩, hby.keep (fun p hp => World.cell?_alloc_lt w1 _ p hp), hl', hnil', hb1.size, hb1.alloc hb1.size _⟩
end Go.Proofs.Ytgbmamahkpkdfaa
