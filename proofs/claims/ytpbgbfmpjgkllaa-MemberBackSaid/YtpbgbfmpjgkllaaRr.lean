/-
  The walks of the document's own Reader: whether bytes can be read, a number, bytes, zeros.
-/
import Derived.Test.YtpbgbfmpjgkllaaNum
import Derived.StillTailTactics
namespace Go.Proofs.Ytpbgbfmpjgkllaa
open Go.RowKit
set_option maxRecDepth 100000
set_option linter.unusedVariables false

/-- block g is the document's own Reader of the slice A, n, c, that stands at 'k', with the error er. -/
structure Rr (w : World) (g : Nat) (A : Option Addr) (n c k : Nat) (er : Int) : Prop where
  blk : w.heap[g]? = some (.cells #[.slice A n c, .int .i64 (k : Int), .int .i64 er] 107 (0, 0))

section
variable {w w' : World} {g : Nat} {A : Option Addr} {n c k : Nat} {er : Int}
theorem Rr.lt (h : Rr w g A n c k er) : g < w.heap.size := (Array.getElem?_eq_some_iff.1 h.blk).1
theorem Rr.cell (h : Rr w g A n c k er) (i : Nat) : w.cell? ⟨g, i, none⟩ = #[Value.slice A n c, .int .i64 (k : Int), .int .i64 er][i]? := cell_of_row w g i _ _ (0, 0) h.blk
theorem Rr.c0 (h : Rr w g A n c k er) : w.cell? ⟨g, 0, none⟩ = some (.slice A n c) := h.cell 0
theorem Rr.c1 (h : Rr w g A n c k er) : w.cell? ⟨g, 1, none⟩ = some (.int .i64 (k : Int)) := h.cell 1
theorem Rr.c2 (h : Rr w g A n c k er) : w.cell? ⟨g, 2, none⟩ = some (.int .i64 er) := h.cell 2
theorem Rr.fr (h : Rr w g A n c k er) (i : Nat) : w.frozen? ⟨g, i, none⟩ = false := frozen_of_row w g i _ _ h.blk
theorem Rr.kept (h : Rr w g A n c k er) (hb : w'.heap[g]? = w.heap[g]?) : Rr w' g A n c k er := ⟨hb.trans h.blk⟩
theorem Rr.drewN (h : Rr w g A n c k er) (m : Nat) : Rr (w.drewN m) g A n c k er := ⟨h.blk⟩
theorem Rr.alloc (h : Rr w g A n c k er) (o : Obj) : Rr (w.alloc o) g A n c k er := h.kept (Below.heap_alloc w o g h.lt)
theorem Rr.grown {row : Option Nat} (h : Rr w g A n c k er) (hg : w.grownBy w' row) (hr : row ≠ some g) : Rr w' g A n c k er := h.kept (hg.block g h.lt (fun e => hr e.symm))
theorem Rr.setK (h : Rr w g A n c k er) (k' : Nat) : Rr (w.setCell ⟨g, 1, none⟩ (.int .i64 (k' : Int))) g A n c k' er :=
  ⟨heap_setCell_same w g 1 _ _ _ h.blk⟩
theorem Rr.setE (h : Rr w g A n c k er) (er' : Int) : Rr (w.setCell ⟨g, 2, none⟩ (.int .i64 er')) g A n c k er' :=
  ⟨heap_setCell_same w g 2 _ _ _ h.blk⟩
end


/-- the error that a piece leaves: n bytes, that can be so many or not. -/
def fitE (er : Int) (ok : Bool) (len k : Nat) (n : Int) : Int := if er ≠ 0 then er else if ok = false then 1 else if (len : Int) - k < n then 10 else 0

set_option maxHeartbeats 1000000 in
theorem fits_q (w : World) (g : Nat) (A : Option Addr) (len c k : Nat) (er n : Int) (ok : Bool) (h : Rr w g A len c k er) (hk : k ≤ len) (hn : len ≤ 140737488355328) :
    Calls Try.prog 67 #[.pointer (some ⟨g, 0, none⟩), .int .i64 n, .bool ok] w fun e w' => e = .returned (.bool (decide (fitE er ok len k n = 0))) ∧ Rr w' g A len c k (fitE er ok len k n) ∧ w.grownBy w' (some g) := by
  have c0 := h.c0
  have c1 := h.c1
  have c2 := h.c2
  have f2 := h.fr 2
  by_cases he : er = 0
  · subst he
    cases ok
    · have hE : fitE 0 false len k n = 1 := rfl
      rw [hE]
      have HR := hide (h.setE 1)
      have HG := hide (grown_set w g 2 (.int .i64 1))
      have c2' := HR.out.c2
      clear hE
      go_enter Try.func67, Try.ntmps67
      go_wp2
      go_ret
      exact ⟨rfl, HR.out, HG.out⟩
    · by_cases hlt : (len : Int) - k < n
      · have hE : fitE 0 true len k n = 10 := by unfold fitE; rw [if_neg (by simp), if_neg (by simp), if_pos hlt]
        rw [hE]
        have HH := hide h
        clear hE
        go_enter Try.func67, Try.ntmps67
        go_wp2
        go_quiet (fail)
        have HR := hide ((HH.out.drewN nq).setE 10)
        have HG := hide (grown_of_drewN (n := nq) (grown_set (w.drewN nq) g 2 (.int .i64 10)))
        have c2' := HR.out.c2
        have f2' := (HH.out.drewN nq).fr 2
        have d2 := (HH.out.drewN nq).c2
        go_wp2
        go_ret
        exact ⟨rfl, HR.out, HG.out⟩
      · have hE : fitE 0 true len k n = 0 := by unfold fitE; rw [if_neg (by simp), if_neg (by simp), if_neg hlt]
        rw [hE]
        have HH := hide h
        clear hE
        go_enter Try.func67, Try.ntmps67
        go_wp2
        go_quiet (fail)
        have d2 := (HH.out.drewN nq).c2
        go_wp2
        go_ret
        exact ⟨rfl, HH.out.drewN _, ⟨rfl, rfl, rfl, Nat.le_refl _, fun _ _ _ => rfl⟩⟩
  · have hei : (er != 0) = true := by simpa using he
    have hE : fitE er ok len k n = er := by unfold fitE; rw [if_pos he]
    rw [hE, decide_eq_false he]
    clear hE
    have HH := hide h
    go_enter Try.func67, Try.ntmps67
    go_wp2
    go_ret
    exact ⟨rfl, HH.out, ⟨rfl, rfl, rfl, Nat.le_refl _, fun _ _ _ => rfl⟩⟩

/-- where a number leaves the document's own Reader, what it answers, the error. -/
def numQ (l : List UInt8) (k : Nat) (er : Int) (m : Int) : Nat × Nat × Int := if er ≠ 0 then (k, 0, er) else ((numR l k m).1, (numR l k m).2.1, ((numR l k m).2.2 : Int))
theorem numQ_no {l : List UInt8} {k : Nat} {er m : Int} (hk : k ≤ l.length) (h : fitE er (decide (1 ≤ m) && decide (m ≤ 8)) l.length k m ≠ 0) : numQ l k er m = (k, 0, fitE er (decide (1 ≤ m) && decide (m ≤ 8)) l.length k m) := by
  by_cases he : er = 0
  · subst he
    by_cases h1 : 1 ≤ m ∧ m ≤ 8
    · have hd : (decide (1 ≤ m) && decide (m ≤ 8)) = true := by simp [h1.1, h1.2]
      rw [hd] at h ⊢
      by_cases h2 : (l.length : Int) - k < m
      · have e1 : fitE 0 true l.length k m = 10 := by unfold fitE; rw [if_neg (by simp), if_neg (by simp), if_pos h2]
        have e2 : numR l k m = (k, 0, 10) := by unfold numR pieceS; rw [if_pos rfl, if_pos h1, if_neg (by omega)]
        unfold numQ
        rw [e1, e2]; rfl
      · have e1 : fitE 0 true l.length k m = 0 := by unfold fitE; rw [if_neg (by simp), if_neg (by simp), if_neg h2]
        exact absurd e1 h
    · have hd : (decide (1 ≤ m) && decide (m ≤ 8)) = false := by simp; omega
      have e2 : numR l k m = (k, 0, 1) := by unfold numR pieceS; rw [if_pos rfl, if_neg h1]
      unfold numQ
      rw [hd, e2]; rfl
  · unfold numQ fitE
    rw [if_pos he, if_pos he]
theorem numQ_yes {l : List UInt8} {k j : Nat} (hj : 1 ≤ j) (hj8 : j ≤ 8) (hk : k + j ≤ l.length) : numQ l k 0 (j : Int) = (k + j, numS ((l.drop k).take j), 0) := by
  unfold numQ
  rw [if_neg (by simp)]
  unfold numR pieceS
  rw [if_pos rfl, if_pos (by omega), if_pos (by omega)]
  simp

set_option maxHeartbeats 2000000 in
theorem numq_any (w : World) (g : Nat) (A : Option Addr) (l : List UInt8) (c k : Nat) (er m : Int) (h : Rr w g A l.length c k er) (hk : k ≤ l.length) (hl : l.length ≤ c) (hn : l.length ≤ 140737488355328) (hb : Byt w g A l) :
    Calls Try.prog 55 #[.pointer (some ⟨g, 0, none⟩), .int .i64 m] w fun e w' => e = .returned (.int .u64 ((numQ l k er m).2.1 : Int)) ∧ Rr w' g A l.length c (numQ l k er m).1 (numQ l k er m).2.2 ∧ w.grownBy w' (some g) := by
  have hF := fun ok => fits_q w g A l.length c k er m ok h hk hn
  by_cases hno : fitE er (decide (1 ≤ m) && decide (m ≤ 8)) l.length k m = 0
  · have hE : er = 0 ∧ (1 ≤ m ∧ m ≤ 8) ∧ m ≤ (l.length : Int) - k := by
      unfold fitE at hno
      by_cases he : er = 0
      · rw [if_neg (by simp [he])] at hno
        by_cases h1 : (decide (1 ≤ m) && decide (m ≤ 8)) = false
        · rw [if_pos h1] at hno; exact absurd hno (by decide)
        · rw [if_neg h1] at hno
          by_cases h2 : (l.length : Int) - k < m
          · rw [if_pos h2] at hno; exact absurd hno (by decide)
          · simp at h1; exact ⟨he, by omega, by omega⟩
      · rw [if_pos he] at hno; exact absurd hno he
    obtain ⟨rfl, ⟨hm1', hm8⟩, hfit⟩ := hE
    obtain ⟨M, rfl⟩ : ∃ M : Nat, m = (M : Int) := ⟨m.toNat, by omega⟩
    rw [numQ_yes (by omega) (by omega) (by omega)]
    have hF1 := hF true
    rw [show fitE 0 true l.length k (M : Int) = 0 by unfold fitE; rw [if_neg (by simp), if_neg (by simp), if_neg (by omega)]] at hF1
    rw [decide_eq_true (rfl : (0 : Int) = 0)] at hF1
    have HF := hide hF1
    clear hF1
    obtain ⟨r, hr⟩ : ∃ r, r = (l.drop k).take M := ⟨_, rfl⟩
    rw [← hr]
    have hrl : r.length = M := by rw [hr]; simp; omega
    have HRR := hide hr
    have HRL := hide hrl
    have HBY := hide hb
    have HLL : Hid (l.length ≤ c) := hide hl
    have hkm : k + M ≤ l.length := by omega
    have hM1 : (1 : Int) ≤ (M : Int) := by omega
    have hM8 : (M : Int) ≤ 8 := by omega
    clear hF hno hr hrl
    go_enter Try.func55, Try.ntmps55
    go_wp2_with fail
    refine HF.out.mono ?_
    rintro e w1 ⟨rfl, hR1, hg1⟩
    have HG1 := hide hg1
    have HR1 := hide hR1
    have HB1 := hide (HBY.out.row hg1)
    clear hg1 hR1 HF h hb
    go_wp2_with fail
    go_loopw [5, 6] (fun n i wr => ∃ j : Nat, j ≤ M ∧ n = .int .u64 (numS (r.take j) : Nat) ∧ i = .int .i64 (j : Int) ∧ ∃ q, wr = w1.drewN q) (fun _ i _ => M - (intOf i).toNat)
    case atStart => exact ⟨0, by omega, rfl, rfl, 0, rfl⟩
    case round =>
      obtain ⟨j, hj, rfl, rfl, hq⟩ := hrel
      have hRw : Rr wr g A l.length c k 0 := by obtain ⟨q, rfl⟩ := hq; exact HR1.out.drewN q
      have hBw : Byt wr g A l := by obtain ⟨q, rfl⟩ := hq; exact HB1.out
      have hGw : w.grownBy wr (some g) := by obtain ⟨q, rfl⟩ := hq; exact grown_drewN HG1.out q
      have HQ := hide hq
      clear hq
      by_cases hlt : j < M
      · obtain ⟨b, off, hA, hbB, hcell⟩ := hBw (by omega)
        subst hA
        have hjr : j < r.length := by rw [HRL.out]; exact hlt
        obtain ⟨x, hx0⟩ : ∃ x, x = r[j] := ⟨_, rfl⟩
        have hxl : l[k + j]'(by omega) = x := by rw [hx0]; simp [HRR.out]
        have hc0 : wr.cell? ⟨b, off + (k + j), none⟩ = some (.int .u8 (x.toNat : Int)) := by rw [← hxl]; exact hcell (k + j) (by omega)
        have d0 := hRw.c0
        have d1 := hRw.c1
        obtain ⟨N, hN⟩ : ∃ N, N = numS (r.take j) := ⟨_, rfl⟩
        rw [← hN]
        have HN := hide hN
        have HX := hide hx0
        have hs1 : IntKind.i64.wrap ((k : Int) + (j : Int)) = (k : Int) + (j : Int) := by rw [IntKind.wrap_i64]; omega
        have hs2 : ((k : Int) + (j : Int)).toNat = k + j := by omega
        have hs3 : (0 : Int) ≤ (k : Int) + (j : Int) := by omega
        have hs4 : (k : Int) + (j : Int) < (l.length : Int) := by omega
        have hxb := x.toNat_lt
        have HJ : Hid (k + j < l.length) := hide (by omega)
        clear hN hcell hx0 hxl hRw hBw hGw
        go_wp2
        go_quiet (fail)
        clear hs1 hs2
        go_wp2
        go_roundw
        case rel => exact ⟨j + 1, by omega, by
          have hlt7 : N < 256 ^ 7 := by
            rw [HN.out]
            have h1 := numS_lt (r.take j)
            have h2 : (r.take j).length ≤ 7 := by rw [List.length_take]; omega
            have h3 : 256 ^ (r.take j).length ≤ 256 ^ 7 := Nat.pow_le_pow_right (by omega) h2
            omega
          rw [or_num N x hlt7, List.take_succ_eq_append_getElem (by rw [HRL.out]; omega), numS_snoc, HN.out, HX.out], by go_num, by obtain ⟨q, hq⟩ := HQ.out; exact ⟨q + nq, by rw [hq, World.drewN_drewN]⟩⟩
        case measure => simp [intOf]; omega
      · obtain rfl : j = M := by omega
        have hfull : r.take j = r := List.take_of_length_le (by rw [HRL.out]; exact Nat.le_refl _)
        rw [hfull]
        clear hfull hlt
        have d1 := hRw.c1
        have e1 := hRw.fr 1
        have hR' := hRw.setK (k + j)
        have hg' : w.grownBy (wr.setCell ⟨g, 1, none⟩ (.int .i64 ((k + j : Nat) : Int))) (some g) := grown_trans hGw (grown_set wr g 1 _)
        rw [show (((k + j : Nat)) : Int) = (k : Int) + (j : Int) from by omega] at hR' hg'
        have H1 := hide hR'
        have H2 := hide hg'
        clear hR' hg'
        go_wp2
        go_ret
        exact ⟨rfl, H1.out, H2.out⟩
  · rw [numQ_no hk hno]
    obtain ⟨E, hE⟩ : ∃ E, E = fitE er (decide (1 ≤ m) && decide (m ≤ 8)) l.length k m := ⟨_, rfl⟩
    have hF' := hF (decide (1 ≤ m) && decide (m ≤ 8))
    rw [← hE] at hF' hno ⊢
    rw [decide_eq_false hno] at hF'
    have HF := hide hF'
    clear hF hF' hE
    by_cases h1 : 1 ≤ m
    · have h1i : decide (1 ≤ m) = true := decide_eq_true h1
      rw [h1i, Bool.true_and] at HF
      by_cases h8 : m ≤ 8
      · have h8i : decide (m ≤ 8) = true := decide_eq_true h8
        rw [h8i] at HF
        go_enter Try.func55, Try.ntmps55
        go_wp2_with fail
        refine HF.out.mono ?_
        rintro e w1 ⟨rfl, hR1, hg1⟩
        go_wp2
        go_ret
        exact ⟨rfl, hR1, hg1⟩
      · have h8i : decide (m ≤ 8) = false := decide_eq_false h8
        rw [h8i] at HF
        go_enter Try.func55, Try.ntmps55
        go_wp2_with fail
        refine HF.out.mono ?_
        rintro e w1 ⟨rfl, hR1, hg1⟩
        go_wp2
        go_ret
        exact ⟨rfl, hR1, hg1⟩
    · have h1i : decide (1 ≤ m) = false := decide_eq_false h1
      rw [h1i, Bool.false_and] at HF
      have h1' : ¬ (m ≥ 1) := h1
      go_enter Try.func55, Try.ntmps55
      go_wp2_with fail
      refine HF.out.mono ?_
      rintro e w1 ⟨rfl, hR1, hg1⟩
      go_wp2
      go_ret
      exact ⟨rfl, hR1, hg1⟩
end Go.Proofs.Ytpbgbfmpjgkllaa
