/-
  The walks of a Reader's Take, Skip and Zero, of Num behind an error, of At; and of all of them where there is no Reader.
-/
import Derived.Test.YtgbmamahkpkdfaaRt
namespace Go.Proofs.Ytgbmamahkpkdfaa
open Go.RowKit
set_option maxRecDepth 100000
set_option linter.unusedVariables false

theorem take_cases (l : List UInt8) (k : Nat) (m : Int) : (∃ j : Nat, m = (j : Int) ∧ (j : Int) ≤ (l.length : Int) - k ∧ takeQ l k 0 m = (k + j, (l.drop k).take j, 0)) ∨ (m < 0 ∧ takeQ l k 0 m = (k, [], 1)) ∨ (0 ≤ m ∧ (l.length : Int) - k < m ∧ takeQ l k 0 m = (k, [], 10)) := by
  unfold takeQ fitE
  by_cases h0 : m < 0
  · refine .inr (.inl ⟨h0, ?_⟩)
    simp [show ¬ 0 ≤ m by omega]
  · by_cases h1 : m ≤ (l.length : Int) - k
    · refine .inl ⟨m.toNat, by omega, by omega, ?_⟩
      simp [show 0 ≤ m by omega, show ¬ ((l.length : Int) - k < m) by omega]
    · refine .inr (.inr ⟨by omega, by omega, ?_⟩)
      simp [show 0 ≤ m by omega, show ((l.length : Int) - k < m) by omega]
theorem zero_cases (l : List UInt8) (k : Nat) (m : Int) : (∃ j : Nat, m = (j : Int) ∧ (j : Int) ≤ (l.length : Int) - k ∧ zeroQ l k 0 m = if ((l.drop k).take j).all (fun x => x == 0) = true then (k + j, 0) else (k, 11)) ∨ (m < 0 ∧ zeroQ l k 0 m = (k, 1)) ∨ (0 ≤ m ∧ (l.length : Int) - k < m ∧ zeroQ l k 0 m = (k, 10)) := by
  unfold zeroQ fitE
  by_cases h0 : m < 0
  · refine .inr (.inl ⟨h0, ?_⟩)
    simp [show ¬ 0 ≤ m by omega]
  · by_cases h1 : m ≤ (l.length : Int) - k
    · refine .inl ⟨m.toNat, by omega, by omega, ?_⟩
      simp [show 0 ≤ m by omega, show ¬ ((l.length : Int) - k < m) by omega]
    · refine .inr (.inr ⟨by omega, by omega, ?_⟩)
      simp [show 0 ≤ m by omega, show ((l.length : Int) - k < m) by omega]

/-- what the closure of Take leaves. -/
def TakS (W : World) (g b2 : Nat) (A : Option Addr) (n c : Nat) (res : Nat × List UInt8 × Int) (er : Int) (w' : World) : Prop :=
  er = res.2.2 ∧ Rd w' g A n c res.1 0 ∧ (∃ v, w'.heap[b2]? = some (.cells #[v] 22 (0, 0)) ∧ OwnB w' W.heap.size v res.2.1) ∧ Fr2 W w' g b2
theorem tak_stays {W w' : World} {g b2 : Nat} {A : Option Addr} {n c : Nat} {res : Nat × List UInt8 × Int} (h : Stays g (TakS W g b2 A n c res) w') (hgv : g ≠ b2) :
    Rd w' g A n c res.1 res.2.2 ∧ (∃ v, w'.heap[b2]? = some (.cells #[v] 22 (0, 0)) ∧ OwnB w' W.heap.size v res.2.1) ∧ Fr2 W w' g b2 := by
  rcases h with ⟨h0, hr, hv, hf⟩ | ⟨er, w1, _, ⟨he, hr, ⟨v, hv, ho⟩, hf⟩, rfl⟩
  · exact ⟨by rw [← h0]; exact hr, hv, hf⟩
  · subst he
    have hs := grown_set w1.drew g 2 (.int .i64 res.2.2)
    have hfd : Fr2 W w1.drew g b2 := ⟨hf.os, hf.tape, hf.output, hf.size, hf.block⟩
    exact ⟨(hr.drewN 1).setE _, ⟨v, (Below.heap_setCell _ ⟨g, 2, none⟩ _ b2 (by show b2 ≠ g; omega)).trans hv, (ho.drewN 1).kept hs (own_ne ho (hr.drewN 1).blk (by decide))⟩, hfd.grown hs (fun i e => by cases e; exact .inr (.inl rfl))⟩

set_option maxHeartbeats 1000000 in
theorem takC_any (w : World) (g b0 b1 b2 : Nat) (A : Option Addr) (l : List UInt8) (c k : Nat) (m : Int) (h : Rd w g A l.length c k 0) (hk : k ≤ l.length) (hl : l.length ≤ c) (hn : l.length ≤ 140737488355328) (hb : Byt w g A l)
    (h0 : w.heap[b0]? = some (.cells #[.pointer (some ⟨g, 0, none⟩)] 44 (0, 0))) (h1 : w.heap[b1]? = some (.cells #[.int .i64 m] 3 (0, 0))) (h2 : w.heap[b2]? = some (.cells #[.slice none 0 0] 22 (0, 0))) (hgb : g ≠ b2) :
    Calls Try.prog 72 #[.pointer (some ⟨b0, 0, none⟩), .pointer (some ⟨b1, 0, none⟩), .pointer (some ⟨b2, 0, none⟩)] w fun e w' =>
      (e = .returned (.tuple #[]) ∧ TakS w g b2 A l.length c (takeQ l k 0 m) 0 w') ∨ ∃ er, er ≠ 0 ∧ e = giveUp er ∧ TakS w g b2 A l.length c (takeQ l k 0 m) er w' := by
  have c0 := one_cell h0
  have c1 := one_cell h1
  rcases take_cases l k m with ⟨j, rfl, hj, hT⟩ | ⟨hm, hT⟩ | ⟨hm, hs, hT⟩
  · rw [hT]
    have HC := hide (take_ok w g A l c k 0 h j hl hn (by omega) hb)
    have HL2 : Hid (b2 < w.heap.size) := hide (Array.getElem?_eq_some_iff.1 h2).1
    clear hT
    go_enter Try.func72, Try.ntmps72
    go_wp2_with fail
    refine HC.out.mono ?_
    rintro e w1 ⟨⟨v, rfl, hO1⟩, hR1, hg1⟩
    obtain ⟨Av, cv, rfl, -⟩ := hO1.shape
    have h21 := (hg1.block b2 HL2.out (by simp; omega)).trans h2
    have c2 := one_cell h21
    have f2 := frozen_of_row w1 b2 0 _ _ h21
    have hfin : ∀ u, Rd (w1.setCell ⟨b2, 0, none⟩ u) g A l.length c (k + j) 0 ∧ (w1.setCell ⟨b2, 0, none⟩ u).heap[b2]? = some (.cells #[u] 22 (0, 0)) ∧ Fr2 w (w1.setCell ⟨b2, 0, none⟩ u) g b2 := fun u =>
      ⟨hR1.grown (grown_set w1 b2 0 u) (by simp; omega), heap_setCell_same w1 b2 0 _ _ _ h21, ((Fr2.refl w g b2).grown hg1 (fun i e => by cases e; exact .inr (.inl rfl))).grown (grown_set w1 b2 0 u) (fun i e => by cases e; exact .inr (.inr rfl))⟩
    have hO2 : ∀ u, OwnB (w1.setCell ⟨b2, 0, none⟩ u) w.heap.size (.slice Av ((l.drop k).take j).length cv) ((l.drop k).take j) := fun u => hO1.kept (grown_set w1 b2 0 u) (by
      rcases hO1.2 with ⟨e, _⟩ | ⟨g', cap, cur, e, hbg, _⟩
      · exact .inl (by rw [e]; rfl)
      · exact .inr (by have := HL2.out; rw [e]; simp [Value.ownBlock]; omega))
    have HF := hide hfin
    have HO := hide hO2
    obtain ⟨L, hL⟩ : ∃ L, L = ((l.drop k).take j).length := ⟨_, rfl⟩
    rw [← hL]
    have HLL := hide hL
    clear hfin h21 hO2 hO1 hR1 hg1 hL
    go_wp2
    go_end0
    obtain ⟨a1, a2, a3⟩ := HF.out (.slice Av L cv)
    exact .inl ⟨rfl, rfl, a1, ⟨_, a2, by have := HO.out (.slice Av L cv); rwa [← HLL.out] at this⟩, a3⟩
  · rw [hT]
    have HC := hide (take_neg w g m hm)
    clear hT
    go_enter Try.func72, Try.ntmps72
    go_wp2_with fail
    refine HC.out.mono ?_
    rintro e w1 ⟨rfl, q, rfl⟩
    go_wp2
    exact ⟨rfl, .inr ⟨1, by decide, rfl, rfl, h.drewN q, ⟨_, h2, OwnB.nil _ _⟩, ⟨rfl, rfl, rfl, Nat.le_refl _, fun _ _ _ _ => rfl⟩⟩⟩
  · rw [hT]
    have HC := hide (take_short w g A _ c k 0 h m hm hn hk hs)
    clear hT
    go_enter Try.func72, Try.ntmps72
    go_wp2_with fail
    refine HC.out.mono ?_
    rintro e w1 ⟨rfl, q, rfl⟩
    go_wp2
    exact ⟨rfl, .inr ⟨10, by decide, rfl, rfl, h.drewN q, ⟨_, h2, OwnB.nil _ _⟩, ⟨rfl, rfl, rfl, Nat.le_refl _, fun _ _ _ _ => rfl⟩⟩⟩

set_option maxHeartbeats 1000000 in
/-- Take of a Reader without an error: the bytes, or none and the error that stays. -/
theorem rtake_any (w : World) (g : Nat) (A : Option Addr) (l : List UInt8) (c k : Nat) (m : Int) (h : Rd w g A l.length c k 0) (hk : k ≤ l.length) (hl : l.length ≤ c) (hn : l.length ≤ 140737488355328) (hb : Byt w g A l) :
    Calls Try.prog 28 #[.pointer (some ⟨g, 0, none⟩), .int .i64 m] w fun e w' => (∃ v, e = .returned v ∧ OwnB w' w.heap.size v (takeQ l k 0 m).2.1) ∧ Rd w' g A l.length c (takeQ l k 0 m).1 (takeQ l k 0 m).2.2 ∧ w.grownBy w' (some g) := by
  have hmf : ∀ (fn : Fn) (first cap : Array Value) (w : World), (Instr.makeFunc fn first cap).run Try.prog w = .ok (.func fn first cap) w := fun _ _ _ _ => rfl
  have hgl := h.lt
  obtain ⟨W, hW, hbW, hzW, v0, v1, v2⟩ := three_vars w (.pointer (some ⟨g, 0, none⟩)) (.int .i64 m) (.slice none 0 0) 44 3 22
  have hRW : Rd W g A l.length c k 0 := h.kept (hbW.block g hgl)
  have hF := takC_any (W.alloc (.cells #[.pointer (some ⟨g, 0, none⟩)] 44)) g w.heap.size (w.heap.size + 1) (w.heap.size + 1 + 1) A l c k m (hRW.alloc _) hk hl hn
    (hb.keep (fun p hp => (World.cell?_alloc_lt W _ p (by omega)).trans (hbW.cell (by omega)))) ((Below.heap_alloc W _ _ (by omega)).trans v0) ((Below.heap_alloc W _ _ (by omega)).trans v1) ((Below.heap_alloc W _ _ (by omega)).trans v2) (by omega)
  obtain ⟨res, hres⟩ : ∃ res, res = takeQ l k 0 m := ⟨_, rfl⟩
  rw [← hres] at hF ⊢
  have hcall := attempt_any W g A l.length c k 72 #[.pointer (some ⟨w.heap.size, 0, none⟩), .pointer (some ⟨w.heap.size + 1, 0, none⟩), .pointer (some ⟨w.heap.size + 1 + 1, 0, none⟩)]
    (TakS (W.alloc (.cells #[.pointer (some ⟨g, 0, none⟩)] 44)) g (w.heap.size + 1 + 1) A l.length c res) hRW (fun W => by simp [go_sem])
    hF
    (fun er w' ⟨_, hr, _, hf⟩ => ⟨(hf.block _ (by simp) (by omega) (by omega)).trans (heap_alloc_new W _), _, hr⟩)
  have HC := hide hcall
  have HZ := hide hzW
  have hcr : W.cell? ⟨w.heap.size, 0, none⟩ = some (.pointer (some ⟨g, 0, none⟩)) := one_cell v0
  clear hF hcall hres v0 v1 v2 hzW hRW
  go_enter Try.func28, Try.ntmps28
  go_wp2_with fail
  rw [← hW]
  clear hW hcr
  refine HC.out.mono ?_
  rintro e w1 ⟨rfl, hst⟩
  obtain ⟨hrd, ⟨v, hbox, hown⟩, hfr⟩ := tak_stays hst (by omega)
  have cv := one_cell hbox
  have hgrow : w.grownBy w1 (some g) := by
    have hz := HZ.out
    refine ⟨hfr.os.trans hbW.os, hfr.tape.trans hbW.tape, hfr.output.trans hbW.output, ?_, fun i hi hr => ?_⟩
    · have := hfr.size; simp at this; omega
    · exact (hfr.block i (by simp; omega) (fun e => hr (by rw [e])) (by omega)).trans ((Below.heap_alloc W _ i (by omega)).trans (hbW.block i hi))
  have hO := hown.base (B' := w.heap.size) (by have := HZ.out; simp; omega)
  obtain ⟨Av, ccv, rfl, -⟩ := hO.shape
  have HG := hide hgrow
  have HR := hide hrd
  have HO := hide hO
  clear hst hgrow hrd hbox hfr hown hO
  go_wp2
  go_ret
  exact ⟨⟨_, rfl, HO.out⟩, HR.out, HG.out⟩
end Go.Proofs.Ytgbmamahkpkdfaa
