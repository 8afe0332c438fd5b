/-
  The walk of Run: what each piece was, up to the first error, how many bytes were read, that error.
-/
import Derived.Test.YtgbmamahkpkdfaaCatch
namespace Go.Proofs.Ytgbmamahkpkdfaa
open Go.RowKit
set_option maxRecDepth 100000

theorem Ops.keep {w w' : World} {B B' : Nat} {A : Option Addr} {l : List (Int × Int)} (h : Ops w B A l) (hB : B ≤ B') (hk : ∀ p : Addr, p.block < B → w'.cell? p = w.cell? p) : Ops w' B' A l := fun hl => by
  obtain ⟨b, off, e, hb, hc⟩ := h hl
  exact ⟨b, off, e, by omega, fun i hi => ⟨(hk _ hb).trans (hc i hi).1, (hk _ hb).trans (hc i hi).2⟩⟩
theorem OwnV.base {w : World} {B B' : Nat} {vv : Value} {items : List VItem} (h : OwnV w B vv items) (hB : B' ≤ B) : OwnV w B' vv items := by
  refine ⟨⟨h.row.1, ?_⟩, fun it hit => (h.each it hit).base hB⟩
  rcases h.row.2 with e | ⟨g, cap, cur, e, hb, rest⟩
  · exact .inl e
  · exact .inr ⟨g, cap, cur, e, Nat.le_trans hB hb, rest⟩
theorem OwnV.drewN {w : World} {B : Nat} {vv : Value} {items : List VItem} (h : OwnV w B vv items) (k : Nat) : OwnV (w.drewN k) B vv items := ⟨h.row, h.each⟩

/-- three variables of a call's own, and a fourth one. -/
theorem four_vars (w : World) (a b : Value) (ds : Array Value) (s t u : TypeId) : ∃ W, W = ((w.alloc (.cells #[a] s)).alloc (.cells ds t)).alloc (.cells #[b] u) ∧ Below w.heap.size w W ∧ W.heap.size = w.heap.size + 3 ∧
    W.heap[w.heap.size]? = some (.cells #[a] s (0, 0)) ∧ W.heap[w.heap.size + 1]? = some (.cells ds t (0, 0)) ∧ W.heap[w.heap.size + 2]? = some (.cells #[b] u (0, 0)) := by
  have h0 := heap_alloc_new w (.cells #[a] s)
  have h1 := heap_alloc_new (w.alloc (.cells #[a] s)) (.cells ds t)
  have h2 := heap_alloc_new ((w.alloc (.cells #[a] s)).alloc (.cells ds t)) (.cells #[b] u)
  refine ⟨_, rfl, (((Below.refl _ _).alloc (Nat.le_refl _) _).alloc (by simp) _).alloc (by simp; omega) _, by simp, ?_, ?_, by simpa using h2⟩
  · rw [Below.heap_alloc _ _ _ (by simp; omega), Below.heap_alloc _ _ _ (by simp)]; exact h0
  · rw [Below.heap_alloc _ _ _ (by simp)]; simpa using h1

/-- what Run's closure leaves, in the words of attempt. -/
def RunS (W4 : World) (g bv : Nat) (A : Option Addr) (n c : Nat) (res : List (Nat × List UInt8) × Nat × Nat) (er : Int) (w' : World) : Prop :=
  er = (res.2.2 : Int) ∧ ∃ vv items, RunInv W4 w' g bv A n c res.2.1 vv items ∧ items.map (fun it => (it.N, it.b)) = res.1

theorem run_stays {W4 w' : World} {g bv : Nat} {A : Option Addr} {n c : Nat} {res : List (Nat × List UInt8) × Nat × Nat} (h : Stays g (RunS W4 g bv A n c res) w') (hgv : g ≠ bv) :
    ∃ vv items, Rd w' g A n c res.2.1 (res.2.2 : Int) ∧ w'.heap[bv]? = some (.cells #[vv] 25 (0, 0)) ∧ OwnV w' W4.heap.size vv items ∧ Fr2 W4 w' g bv ∧ items.map (fun it => (it.N, it.b)) = res.1 := by
  rcases h with ⟨h0, vv, items, hI, hm⟩ | ⟨er, w1, _, ⟨he, vv, items, hI, hm⟩, rfl⟩
  · exact ⟨vv, items, by rw [← h0]; exact hI.rd, hI.box, hI.own, hI.fr, hm⟩
  · subst he
    have hI' := hI.below (w1 := w1.drew) (Below.refl _ _).drew
    have hs := grown_set w1.drew g 2 (.int .i64 (res.2.2 : Int))
    refine ⟨vv, items, hI'.rd.setE _, (Below.heap_setCell _ ⟨g, 2, none⟩ _ bv (by show bv ≠ g; omega)).trans hI'.box, hI'.own.kept hs (own_ne hI'.own.row hI'.rd.blk (by decide)) (fun it hit => own_ne (hI'.own.each it hit) hI'.rd.blk (by decide)), hI'.fr.grown hs (fun i e => by cases e; exact .inr (.inl rfl)), hm⟩

set_option maxHeartbeats 2000000 in
theorem run_any (w : World) (A Al : Option Addr) (l : List UInt8) (c cl : Nat) (ops : List (Int × Int)) (hl : l.length ≤ c) (hn : l.length ≤ 140737488355328) (hb : Byt w w.heap.size A l)
    (hops : Ops w w.heap.size Al ops) (hno : ops.length ≤ 1099511627776) :
    Calls Try.prog 16 #[.slice A l.length c, .slice Al ops.length cl] w fun e w' => ∃ vv items, e = .returned (.tuple #[vv, .int .i64 ((runS l ops 0).2.1 : Int), .int .i64 ((runS l ops 0).2.2 : Int)]) ∧
      OwnV w' w.heap.size vv items ∧ items.map (fun it => (it.N, it.b)) = (runS l ops 0).1 ∧ Below w.heap.size w w' := by
  have hmf : ∀ (fn : Fn) (first cap : Array Value) (w : World), (Instr.makeFunc fn first cap).run Try.prog w = .ok (.func fn first cap) w := fun _ _ _ _ => rfl
  obtain ⟨W, hW, hbW, hzW, v0, v1, v2⟩ := four_vars w (.slice Al ops.length cl) (.slice none 0 0) #[.slice A l.length c, .int .i64 0, .int .i64 0] 29 106 25
  obtain ⟨res, hres⟩ : ∃ res, res = runS l ops 0 := ⟨_, rfl⟩
  have hRW : Rd W (w.heap.size + 1) A l.length c 0 0 := ⟨v1⟩
  have hcell : ∀ p : Addr, p.block < w.heap.size → (W.alloc (.cells #[.pointer (some ⟨w.heap.size + 1, 0, none⟩)] 44)).cell? p = w.cell? p := fun p hp => (World.cell?_alloc_lt W _ p (by omega)).trans (hbW.cell hp)
  have hF := runC_any (W.alloc (.cells #[.pointer (some ⟨w.heap.size + 1, 0, none⟩)] 44)) (w.heap.size + 1) w.heap.size (w.heap.size + 1 + 1) A Al l c cl 0 ops (hRW.alloc _) (Nat.zero_le _) hl hn ((hb.keep hcell).more (by omega))
    (hops.keep (by omega) hcell) hno ((Below.heap_alloc W _ _ (by omega)).trans v0) ((Below.heap_alloc W _ _ (by omega)).trans v2) (by omega)
  rw [← hres] at hF ⊢
  have hcall := attempt_any W (w.heap.size + 1) A l.length c 0 66 #[.pointer (some ⟨w.heap.size, 0, none⟩), .pointer (some ⟨w.heap.size + 1 + 1, 0, none⟩), .pointer (some ⟨w.heap.size + 1, 0, none⟩)]
    (RunS (W.alloc (.cells #[.pointer (some ⟨w.heap.size + 1, 0, none⟩)] 44)) (w.heap.size + 1) (w.heap.size + 1 + 1) A l.length c res) hRW (fun W => by simp [go_sem])
    (hF.mono fun e w' ⟨vv, items, hI, hm, hc⟩ => by
      rcases hc with ⟨h0, rfl⟩ | ⟨h0, rfl⟩
      · exact .inl ⟨rfl, by rw [h0]; rfl, vv, items, hI, hm⟩
      · exact .inr ⟨(res.2.2 : Int), by omega, rfl, rfl, vv, items, hI, hm⟩)
    (fun er w' ⟨he, vv, items, hI, hm⟩ => ⟨(hI.fr.block _ (by simp) (by omega) (by omega)).trans (heap_alloc_new W _), _, hI.rd⟩)
  have HC := hide hcall
  have HZ := hide hzW
  clear hF hcall hres hcell v0 v1 v2 hzW hRW
  go_enter Try.func16, Try.ntmps16
  go_wp2_with fail
  rw [← hW]
  clear hW
  refine HC.out.mono ?_
  rintro e w1 ⟨rfl, hst⟩
  obtain ⟨vv, items, hrd, hbox, hown, hfr, hm⟩ := run_stays hst (by omega)
  have c1 := hrd.c1
  have c2 := hrd.c2
  have cv := one_cell hbox
  have hbel : ∀ n, Below w.heap.size w (w1.drewN n) := fun n => by
    have hz := HZ.out
    refine hbW.trans ⟨hfr.os, hfr.tape, hfr.output, ?_, fun i hi => ?_⟩
    · have := hfr.size; simp at this; simp; omega
    · exact (hfr.block i (by simp; omega) (by omega) (by omega)).trans (Below.heap_alloc W _ i (by omega))
  have HB := hide hbel
  have HO := hide (hown.base (B' := w.heap.size) (by have := HZ.out; simp; omega))
  have HM := hide hm
  clear hst hbel hown hm hbox hrd hfr
  go_wp2
  go_quiet (fail)
  go_wp2
  go_ret3
  exact ⟨vv, items, rfl, HO.out.drewN _, HM.out, HB.out _⟩
end Go.Proofs.Ytgbmamahkpkdfaa
