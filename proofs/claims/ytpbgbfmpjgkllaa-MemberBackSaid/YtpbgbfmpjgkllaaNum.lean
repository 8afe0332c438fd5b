/-
  The walks of New, of a Reader's Num, Left and End.
-/
import Derived.Test.YtpbgbfmpjgkllaaRunW
namespace Go.Proofs.Ytpbgbfmpjgkllaa
open Go.RowKit
set_option maxRecDepth 100000

set_option maxHeartbeats 1000000 in
theorem new_any (w : World) (B : Nat) (A : Option Addr) (l : List UInt8) (c : Nat) (hn : l.length ≤ 140737488420864) (hb : Byt w B A l) (hB : B ≤ w.heap.size) :
    Calls Try.prog 50 #[.slice A l.length c] w fun e w' => ∃ g A' c', e = .returned (.pointer (some ⟨g, 0, none⟩)) ∧ Rd w' g A' l.length c' 0 0 ∧ Byt w' g A' l ∧ l.length ≤ c' ∧ w.heap.size ≤ g ∧ Below w.heap.size w w' := by
  go_enter Try.func50, Try.ntmps50
  go_wp2_with fail
  refine (clone_any w B A l c hn hb hB).mono ?_
  rintro e w1 ⟨v, rfl, hown, hb1⟩
  obtain ⟨A', c', rfl, hl', hby, _, _⟩ := hown.shape
  go_wp2
  go_ret
  refine ⟨w1.heap.size, A', c', rfl, ⟨heap_alloc_new w1 _⟩, hby.keep (fun p hp => World.cell?_alloc_lt w1 _ p hp), hl', hb1.size, hb1.alloc hb1.size _⟩

set_option maxHeartbeats 1000000 in
theorem left_any (w : World) (g : Nat) (A : Option Addr) (n c k : Nat) (er : Int) (h : Rd w g A n c k er) (hn : n ≤ 140737488420864) (hk : k ≤ n) :
    Calls Try.prog 66 #[.pointer (some ⟨g, 0, none⟩)] w fun e w' => e = .returned (.int .i64 ((n : Int) - (k : Int))) ∧ ∃ q, w' = w.drewN q := by
  have h0 := h.c0
  have h1 := h.c1
  go_enter Try.func66, Try.ntmps66
  go_wp2
  go_quiet (fail)
  go_wp2
  go_ret
  exact ⟨rfl, _, rfl⟩

/-- what End answers. -/
def endS (n k : Nat) (er : Int) : Int := if er ≠ 0 then er else if k < n then 11 else 0

set_option maxHeartbeats 1000000 in
theorem end_any (w : World) (g : Nat) (A : Option Addr) (n c k : Nat) (er : Int) (h : Rd w g A n c k er) (hn : n ≤ 140737488420864) (hk : k ≤ n) :
    Calls Try.prog 52 #[.pointer (some ⟨g, 0, none⟩)] w fun e w' => e = .returned (.int .i64 (endS n k er)) ∧ ∃ q, w' = w.drewN q := by
  by_cases he : er = 0
  · subst he
    have h0 : ((0 : Int) != 0) = false := by decide
    by_cases hlt : k < n
    · have hg : (0 : Int) < (n : Int) - (k : Int) := by omega
      go_enter Try.func52, Try.ntmps52
      go_wp2_with fail
      refine (err_any w g A n c k 0 h).mono ?_
      rintro e w1 ⟨rfl, rfl⟩
      go_wp2_with fail
      refine (left_any w g A n c k 0 h hn hk).mono ?_
      rintro e w1 ⟨rfl, q, rfl⟩
      go_wp2
      go_ret
      exact ⟨by simp [endS, hlt], q, rfl⟩
    · have hg : ¬ (0 : Int) < (n : Int) - (k : Int) := by omega
      go_enter Try.func52, Try.ntmps52
      go_wp2_with fail
      refine (err_any w g A n c k 0 h).mono ?_
      rintro e w1 ⟨rfl, rfl⟩
      go_wp2_with fail
      refine (left_any w g A n c k 0 h hn hk).mono ?_
      rintro e w1 ⟨rfl, q, rfl⟩
      go_wp2
      go_ret
      exact ⟨by simp [endS, hlt], q, rfl⟩
  · have h0 : (er != 0) = true := by simp; exact he
    go_enter Try.func52, Try.ntmps52
    go_wp2_with fail
    refine (err_any w g A n c k er h).mono ?_
    rintro e w1 ⟨rfl, rfl⟩
    go_wp2
    go_ret
    exact ⟨by simp [endS, he], 0, rfl⟩

/-- where a number leaves the Reader, what it answers, the error. -/
def numR (l : List UInt8) (k : Nat) (m : Int) : Nat × Nat × Nat :=
  match pieceS l k 0 m with
  | .got N _ j => (k + j, N, 0)
  | .gave er => (k, 0, er)

set_option maxHeartbeats 1000000 in
theorem numC_any (w : World) (g b0 b1 b2 : Nat) (A : Option Addr) (l : List UInt8) (c k : Nat) (m : Int) (h : Rd w g A l.length c k 0) (hk : k ≤ l.length) (hl : l.length ≤ c) (hn : l.length ≤ 140737488420864) (hb : Byt w g A l)
    (h0 : w.heap[b0]? = some (.cells #[.pointer (some ⟨g, 0, none⟩)] 99 (0, 0))) (h1 : w.heap[b1]? = some (.cells #[.int .i64 m] 3 (0, 0))) (h2 : w.heap[b2]? = some (.cells #[.int .u64 0] 90 (0, 0))) (hgb : g ≠ b2) :
    Calls Try.prog 63 #[.pointer (some ⟨b0, 0, none⟩), .pointer (some ⟨b1, 0, none⟩), .pointer (some ⟨b2, 0, none⟩)] w fun e w' =>
      ((e = .returned (.tuple #[]) ∧ (numR l k m).2.2 = 0) ∨ ((numR l k m).2.2 ≠ 0 ∧ e = giveUp ((numR l k m).2.2 : Int))) ∧
      Rd w' g A l.length c (numR l k m).1 0 ∧ w'.heap[b2]? = some (.cells #[.int .u64 ((numR l k m).2.1 : Int)] 90 (0, 0)) ∧ Fr2 w w' g b2 := by
  have c0 := one_cell h0
  have c1 := one_cell h1
  have gave : ∀ er, pieceS l k 0 m = .gave er → (Calls Try.prog 64 #[.pointer (some ⟨g, 0, none⟩), .int .i64 m] w fun e w' => e = giveUp er ∧ ∃ q, w' = w.drewN q) → Calls Try.prog 63 #[.pointer (some ⟨b0, 0, none⟩), .pointer (some ⟨b1, 0, none⟩), .pointer (some ⟨b2, 0, none⟩)] w fun e w' =>
      ((e = .returned (.tuple #[]) ∧ (numR l k m).2.2 = 0) ∨ ((numR l k m).2.2 ≠ 0 ∧ e = giveUp ((numR l k m).2.2 : Int))) ∧
      Rd w' g A l.length c (numR l k m).1 0 ∧ w'.heap[b2]? = some (.cells #[.int .u64 ((numR l k m).2.1 : Int)] 90 (0, 0)) ∧ Fr2 w w' g b2 := fun er he hcall => by
    have hne := pieceS_gave he
    have hR : numR l k m = (k, 0, er) := by unfold numR; rw [he]
    rw [hR]
    have HC := hide hcall
    clear hcall hR he
    go_enter Try.func63, Try.ntmps63
    go_wp2_with fail
    refine HC.out.mono ?_
    rintro e w1 ⟨rfl, q, rfl⟩
    go_wp2
    exact ⟨rfl, .inr ⟨hne, rfl⟩, h.drewN q, h2, ⟨rfl, rfl, rfl, Nat.le_refl _, fun _ _ _ _ => rfl⟩⟩
  by_cases hs : 1 ≤ m ∧ m ≤ 8
  · by_cases hf : m ≤ (l.length : Int) - k
    · obtain ⟨j, rfl⟩ : ∃ j : Nat, m = (j : Int) := ⟨m.toNat, by omega⟩
      have e : pieceS l k 0 (j : Int) = .got (numS ((l.drop k).take j)) [] j := by unfold pieceS; rw [if_pos rfl, if_pos hs, if_pos hf]; simp
      have hR : numR l k (j : Int) = (k + j, numS ((l.drop k).take j), 0) := by unfold numR; rw [e]
      rw [hR]
      have HC := hide (num_ok w g A l c k 0 h j (by omega) (by omega) hl hn (by omega) hb)
      clear hR e gave
      go_enter Try.func63, Try.ntmps63
      go_wp2_with fail
      refine HC.out.mono ?_
      rintro e w1 ⟨rfl, hR1, hg1⟩
      have h21 := (hg1.block b2 (Array.getElem?_eq_some_iff.1 h2).1 (by simp; omega)).trans h2
      have c2 := one_cell h21
      have f2 := frozen_of_row w1 b2 0 _ _ h21
      have hfin : ∀ u, Rd (w1.setCell ⟨b2, 0, none⟩ u) g A l.length c (k + j) 0 ∧ (w1.setCell ⟨b2, 0, none⟩ u).heap[b2]? = some (.cells #[u] 90 (0, 0)) ∧ Fr2 w (w1.setCell ⟨b2, 0, none⟩ u) g b2 := fun u =>
        ⟨hR1.grown (grown_set w1 b2 0 u) (by simp; omega), heap_setCell_same w1 b2 0 _ _ _ h21, ((Fr2.refl w g b2).grown hg1 (fun i e => by cases e; exact .inr (.inl rfl))).grown (grown_set w1 b2 0 u) (fun i e => by cases e; exact .inr (.inr rfl))⟩
      have HF := hide hfin
      clear hfin h21
      go_wp2
      go_end0
      exact ⟨.inl ⟨rfl, trivial⟩, HF.out _⟩
    · have e : pieceS l k 0 m = .gave 10 := by unfold pieceS; rw [if_pos rfl, if_pos hs, if_neg hf]
      exact gave 10 e (num_short w g A _ c k 0 h m hs.1 hs.2 hn hk (by omega))
  · have e : pieceS l k 0 m = .gave 1 := by unfold pieceS; rw [if_pos rfl, if_neg hs]
    exact gave 1 e (num_bad w g m hs)

/-- three variables of a call's own. -/
theorem three_vars (w : World) (a b d : Value) (s t u : TypeId) : ∃ W, W = ((w.alloc (.cells #[a] s)).alloc (.cells #[b] t)).alloc (.cells #[d] u) ∧ Below w.heap.size w W ∧ W.heap.size = w.heap.size + 3 ∧
    W.heap[w.heap.size]? = some (.cells #[a] s (0, 0)) ∧ W.heap[w.heap.size + 1]? = some (.cells #[b] t (0, 0)) ∧ W.heap[w.heap.size + 2]? = some (.cells #[d] u (0, 0)) := four_vars w a d #[b] s t u

def NumS (W : World) (g b2 : Nat) (A : Option Addr) (n c : Nat) (res : Nat × Nat × Nat) (er : Int) (w' : World) : Prop :=
  er = (res.2.2 : Int) ∧ Rd w' g A n c res.1 0 ∧ w'.heap[b2]? = some (.cells #[.int .u64 (res.2.1 : Int)] 90 (0, 0)) ∧ Fr2 W w' g b2
theorem num_stays {W w' : World} {g b2 : Nat} {A : Option Addr} {n c : Nat} {res : Nat × Nat × Nat} (h : Stays g (NumS W g b2 A n c res) w') (hgv : g ≠ b2) :
    Rd w' g A n c res.1 (res.2.2 : Int) ∧ w'.heap[b2]? = some (.cells #[.int .u64 (res.2.1 : Int)] 90 (0, 0)) ∧ Fr2 W w' g b2 := by
  rcases h with ⟨h0, hr, hv, hf⟩ | ⟨er, w1, _, ⟨he, hr, hv, hf⟩, rfl⟩
  · exact ⟨by rw [← h0]; exact hr, hv, hf⟩
  · subst he
    have hs := grown_set w1.drew g 2 (.int .i64 (res.2.2 : Int))
    have hfd : Fr2 W w1.drew g b2 := ⟨hf.os, hf.tape, hf.output, hf.size, hf.block⟩
    exact ⟨(hr.drewN 1).setE _, (Below.heap_setCell _ ⟨g, 2, none⟩ _ b2 (by show b2 ≠ g; omega)).trans hv, hfd.grown hs (fun i e => by cases e; exact .inr (.inl rfl))⟩

set_option maxHeartbeats 1000000 in
/-- Num of a Reader without an error: the number, or 0 and the error that stays. -/
theorem rnum_any (w : World) (g : Nat) (A : Option Addr) (l : List UInt8) (c k : Nat) (m : Int) (h : Rd w g A l.length c k 0) (hk : k ≤ l.length) (hl : l.length ≤ c) (hn : l.length ≤ 140737488420864) (hb : Byt w g A l) :
    Calls Try.prog 51 #[.pointer (some ⟨g, 0, none⟩), .int .i64 m] w fun e w' => e = .returned (.int .u64 ((numR l k m).2.1 : Int)) ∧ Rd w' g A l.length c (numR l k m).1 ((numR l k m).2.2 : Int) ∧ w.grownBy w' (some g) := by
  have hmf : ∀ (fn : Fn) (first cap : Array Value) (w : World), (Instr.makeFunc fn first cap).run Try.prog w = .ok (.func fn first cap) w := fun _ _ _ _ => rfl
  have hgl := h.lt
  obtain ⟨W, hW, hbW, hzW, v0, v1, v2⟩ := three_vars w (.pointer (some ⟨g, 0, none⟩)) (.int .i64 m) (.int .u64 0) 99 3 90
  have hRW : Rd W g A l.length c k 0 := h.kept (hbW.block g hgl)
  have hF := numC_any (W.alloc (.cells #[.pointer (some ⟨g, 0, none⟩)] 99)) g w.heap.size (w.heap.size + 1) (w.heap.size + 1 + 1) A l c k m (hRW.alloc _) hk hl hn
    (hb.keep (fun p hp => (World.cell?_alloc_lt W _ p (by omega)).trans (hbW.cell (by omega)))) ((Below.heap_alloc W _ _ (by omega)).trans v0) ((Below.heap_alloc W _ _ (by omega)).trans v1) ((Below.heap_alloc W _ _ (by omega)).trans v2) (by omega)
  obtain ⟨res, hres⟩ : ∃ res, res = numR l k m := ⟨_, rfl⟩
  rw [← hres] at hF ⊢
  have hcall := attempt_any W g A l.length c k 63 #[.pointer (some ⟨w.heap.size, 0, none⟩), .pointer (some ⟨w.heap.size + 1, 0, none⟩), .pointer (some ⟨w.heap.size + 1 + 1, 0, none⟩)]
    (NumS (W.alloc (.cells #[.pointer (some ⟨g, 0, none⟩)] 99)) g (w.heap.size + 1 + 1) A l.length c res) hRW (fun W => by simp [go_sem])
    (hF.mono fun e w' ⟨hc, hr, hv, hf⟩ => by
      rcases hc with ⟨rfl, h0⟩ | ⟨h0, rfl⟩
      · exact .inl ⟨rfl, by rw [h0]; rfl, hr, hv, hf⟩
      · exact .inr ⟨(res.2.2 : Int), by omega, rfl, rfl, hr, hv, hf⟩)
    (fun er w' ⟨_, hr, hv, hf⟩ => ⟨(hf.block _ (by simp) (by omega) (by omega)).trans (heap_alloc_new W _), _, hr⟩)
  have HC := hide hcall
  have HZ := hide hzW
  have hcr : W.cell? ⟨w.heap.size, 0, none⟩ = some (.pointer (some ⟨g, 0, none⟩)) := one_cell v0
  clear hF hcall hres v0 v1 v2 hzW hRW
  go_enter Try.func51, Try.ntmps51
  go_wp2_with fail
  rw [← hW]
  clear hW hcr
  refine HC.out.mono ?_
  rintro e w1 ⟨rfl, hst⟩
  obtain ⟨hrd, hbox, hfr⟩ := num_stays hst (by omega)
  have cv := one_cell hbox
  have hgrow : w.grownBy w1 (some g) := by
    have hz := HZ.out
    refine ⟨hfr.os.trans hbW.os, hfr.tape.trans hbW.tape, hfr.output.trans hbW.output, ?_, fun i hi hr => ?_⟩
    · have := hfr.size; simp at this; omega
    · exact (hfr.block i (by simp; omega) (fun e => hr (by rw [e])) (by omega)).trans ((Below.heap_alloc W _ i (by omega)).trans (hbW.block i hi))
  have HG := hide hgrow
  have HR := hide hrd
  clear hst hgrow hrd hbox hfr
  go_wp2
  go_ret
  exact ⟨rfl, HR.out, HG.out⟩
end Go.Proofs.Ytpbgbfmpjgkllaa
