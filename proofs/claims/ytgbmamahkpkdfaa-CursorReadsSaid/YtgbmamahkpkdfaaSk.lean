/-
  The walks of a Reader's Skip and Zero.
-/
import Derived.Test.YtgbmamahkpkdfaaTk
namespace Go.Proofs.Ytgbmamahkpkdfaa
open Go.RowKit
set_option maxRecDepth 100000
set_option linter.unusedVariables false

/-- where bytes that are passed over leave a Reader, the error. -/
def skipQ (l : List UInt8) (k : Nat) (er m : Int) : Nat × Int := ((takeQ l k er m).1, (takeQ l k er m).2.2)
theorem two_boxes (w : World) (a b : Value) (s t : TypeId) : ∃ W, W = (w.alloc (.cells #[a] s)).alloc (.cells #[b] t) ∧ Below w.heap.size w W ∧ W.heap.size = w.heap.size + 2 ∧ W.heap[w.heap.size]? = some (.cells #[a] s (0, 0)) ∧ W.heap[w.heap.size + 1]? = some (.cells #[b] t (0, 0)) := by
  have h0 := heap_alloc_new w (.cells #[a] s)
  have h1 := heap_alloc_new (w.alloc (.cells #[a] s)) (.cells #[b] t)
  refine ⟨_, rfl, ((Below.refl _ _).alloc (Nat.le_refl _) _).alloc (by simp) _, by simp, ?_, by simpa using h1⟩
  rw [Below.heap_alloc _ _ _ (by simp)]; exact h0
/-- what the closures of Skip and Zero leave. -/
def SkpS (W : World) (g : Nat) (A : Option Addr) (n c : Nat) (res : Nat × Int) (er : Int) (w' : World) : Prop :=
  er = res.2 ∧ Rd w' g A n c res.1 0 ∧ Fr2 W w' g g
theorem skp_stays {W w' : World} {g : Nat} {A : Option Addr} {n c : Nat} {res : Nat × Int} (h : Stays g (SkpS W g A n c res) w') : Rd w' g A n c res.1 res.2 ∧ Fr2 W w' g g := by
  rcases h with ⟨h0, hr, hf⟩ | ⟨er, w1, _, ⟨he, hr, hf⟩, rfl⟩
  · exact ⟨by rw [← h0]; exact hr, hf⟩
  · subst he
    have hs := grown_set w1.drew g 2 (.int .i64 res.2)
    have hfd : Fr2 W w1.drew g g := ⟨hf.os, hf.tape, hf.output, hf.size, hf.block⟩
    exact ⟨(hr.drewN 1).setE _, hfd.grown hs (fun i e => by cases e; exact .inr (.inl rfl))⟩

set_option maxHeartbeats 1000000 in
theorem skipC_any (w : World) (g b0 b1 : Nat) (A : Option Addr) (l : List UInt8) (c k : Nat) (m : Int) (h : Rd w g A l.length c k 0) (hk : k ≤ l.length) (hl : l.length ≤ c) (hn : l.length ≤ 140737488355328) (hb : Byt w g A l)
    (h0 : w.heap[b0]? = some (.cells #[.pointer (some ⟨g, 0, none⟩)] 44 (0, 0))) (h1 : w.heap[b1]? = some (.cells #[.int .i64 m] 3 (0, 0))) :
    Calls Try.prog 74 #[.pointer (some ⟨b0, 0, none⟩), .pointer (some ⟨b1, 0, none⟩)] w fun e w' =>
      (e = .returned (.tuple #[]) ∧ SkpS w g A l.length c (skipQ l k 0 m) 0 w') ∨ ∃ er, er ≠ 0 ∧ e = giveUp er ∧ SkpS w g A l.length c (skipQ l k 0 m) er w' := by
  have c0 := one_cell h0
  have c1 := one_cell h1
  rcases take_cases l k m with ⟨j, rfl, hj, hT⟩ | ⟨hm, hT⟩ | ⟨hm, hs, hT⟩
  · rw [show skipQ l k 0 (j : Int) = (k + j, 0) by unfold skipQ; rw [hT]]
    have HC := hide (skip_ok w g A l c k 0 h j hl hn (by omega) hb)
    clear hT
    go_enter Try.func74, Try.ntmps74
    go_wp2_with fail
    refine HC.out.mono ?_
    rintro e w1 ⟨rfl, hR1, hg1⟩
    go_wp2
    go_end0
    exact .inl ⟨rfl, rfl, hR1, (Fr2.refl w g g).grown hg1 (fun i e => by cases e; exact .inr (.inl rfl))⟩
  · rw [show skipQ l k 0 m = (k, 1) by unfold skipQ; rw [hT]]
    have HC := hide (skip_neg w g A _ c k 0 h m hm)
    clear hT
    go_enter Try.func74, Try.ntmps74
    go_wp2_with fail
    refine HC.out.mono ?_
    rintro e w1 ⟨rfl, q, rfl⟩
    go_wp2
    exact ⟨rfl, .inr ⟨1, by decide, rfl, rfl, h.drewN q, ⟨rfl, rfl, rfl, Nat.le_refl _, fun _ _ _ _ => rfl⟩⟩⟩
  · rw [show skipQ l k 0 m = (k, 10) by unfold skipQ; rw [hT]]
    have HC := hide (skip_short w g A _ c k 0 h m hm hn hk hs)
    clear hT
    go_enter Try.func74, Try.ntmps74
    go_wp2_with fail
    refine HC.out.mono ?_
    rintro e w1 ⟨rfl, q, rfl⟩
    go_wp2
    exact ⟨rfl, .inr ⟨10, by decide, rfl, rfl, h.drewN q, ⟨rfl, rfl, rfl, Nat.le_refl _, fun _ _ _ _ => rfl⟩⟩⟩

set_option maxHeartbeats 1000000 in
/-- Skip of a Reader without an error. -/
theorem rskip_any (w : World) (g : Nat) (A : Option Addr) (l : List UInt8) (c k : Nat) (m : Int) (h : Rd w g A l.length c k 0) (hk : k ≤ l.length) (hl : l.length ≤ c) (hn : l.length ≤ 140737488355328) (hb : Byt w g A l) :
    Calls Try.prog 30 #[.pointer (some ⟨g, 0, none⟩), .int .i64 m] w fun e w' => e = .returned (.tuple #[]) ∧ Rd w' g A l.length c (skipQ l k 0 m).1 (skipQ l k 0 m).2 ∧ w.grownBy w' (some g) := by
  have hmf : ∀ (fn : Fn) (first cap : Array Value) (w : World), (Instr.makeFunc fn first cap).run Try.prog w = .ok (.func fn first cap) w := fun _ _ _ _ => rfl
  have hgl := h.lt
  obtain ⟨W, hW, hbW, hzW, v0, v1⟩ := two_boxes w (.pointer (some ⟨g, 0, none⟩)) (.int .i64 m) 44 3
  have hRW : Rd W g A l.length c k 0 := h.kept (hbW.block g hgl)
  have hF := skipC_any (W.alloc (.cells #[.pointer (some ⟨g, 0, none⟩)] 44)) g w.heap.size (w.heap.size + 1) A l c k m (hRW.alloc _) hk hl hn
    (hb.keep (fun p hp => (World.cell?_alloc_lt W _ p (by omega)).trans (hbW.cell (by omega)))) ((Below.heap_alloc W _ _ (by omega)).trans v0) ((Below.heap_alloc W _ _ (by omega)).trans v1)
  obtain ⟨res, hres⟩ : ∃ res, res = skipQ l k 0 m := ⟨_, rfl⟩
  rw [← hres] at hF ⊢
  have hcall := attempt_any W g A l.length c k 74 #[.pointer (some ⟨w.heap.size, 0, none⟩), .pointer (some ⟨w.heap.size + 1, 0, none⟩)]
    (SkpS (W.alloc (.cells #[.pointer (some ⟨g, 0, none⟩)] 44)) g A l.length c res) hRW (fun W => by simp [go_sem])
    hF
    (fun er w' ⟨_, hr, hf⟩ => ⟨(hf.block _ (by simp) (by omega) (by omega)).trans (heap_alloc_new W _), _, hr⟩)
  have HC := hide hcall
  have HZ := hide hzW
  have hcr : W.cell? ⟨w.heap.size, 0, none⟩ = some (.pointer (some ⟨g, 0, none⟩)) := one_cell v0
  clear hF hcall hres v0 v1 hzW hRW
  go_enter Try.func30, Try.ntmps30
  go_wp2_with fail
  rw [← hW]
  clear hW hcr
  refine HC.out.mono ?_
  rintro e w1 ⟨rfl, hst⟩
  obtain ⟨hrd, hfr⟩ := skp_stays hst
  have hgrow : w.grownBy w1 (some g) := by
    have hz := HZ.out
    refine ⟨hfr.os.trans hbW.os, hfr.tape.trans hbW.tape, hfr.output.trans hbW.output, ?_, fun i hi hr => ?_⟩
    · have := hfr.size; simp at this; omega
    · exact (hfr.block i (by simp; omega) (fun e => hr (by rw [e])) (fun e => hr (by rw [e]))).trans ((Below.heap_alloc W _ i (by omega)).trans (hbW.block i hi))
  have HG := hide hgrow
  have HR := hide hrd
  clear hst hgrow hrd hfr
  go_wp2
  go_end0
  exact ⟨rfl, HR.out, HG.out⟩

set_option maxHeartbeats 1000000 in
theorem zeroC_any (w : World) (g b0 b1 : Nat) (A : Option Addr) (l : List UInt8) (c k : Nat) (m : Int) (h : Rd w g A l.length c k 0) (hk : k ≤ l.length) (hl : l.length ≤ c) (hn : l.length ≤ 140737488355328) (hb : Byt w g A l)
    (h0 : w.heap[b0]? = some (.cells #[.pointer (some ⟨g, 0, none⟩)] 44 (0, 0))) (h1 : w.heap[b1]? = some (.cells #[.int .i64 m] 3 (0, 0))) :
    Calls Try.prog 76 #[.pointer (some ⟨b0, 0, none⟩), .pointer (some ⟨b1, 0, none⟩)] w fun e w' =>
      (e = .returned (.tuple #[]) ∧ SkpS w g A l.length c (zeroQ l k 0 m) 0 w') ∨ ∃ er, er ≠ 0 ∧ e = giveUp er ∧ SkpS w g A l.length c (zeroQ l k 0 m) er w' := by
  have c0 := one_cell h0
  have c1 := one_cell h1
  rcases zero_cases l k m with ⟨j, rfl, hj, hT⟩ | ⟨hm, hT⟩ | ⟨hm, hs, hT⟩
  · obtain ⟨Z, hZ⟩ : ∃ Z, Z = zeroQ l k 0 (j : Int) := ⟨_, rfl⟩
    rw [← hZ]
    have HZQ := hide (hZ.trans hT)
    have HC := hide (zero_any w g A l c k 0 h j hl hn (by omega) hb)
    clear hT hZ
    go_enter Try.func76, Try.ntmps76
    go_wp2_with fail
    refine HC.out.mono ?_
    rintro e w1 (⟨hz, rfl, hR1, hg1⟩ | ⟨hz, rfl, q, rfl⟩)
    · have hz' := (allZero_iff _).1 hz
      have HZ := hide hz'
      clear hz hz'
      go_wp2
      go_end0
      refine .inl ⟨rfl, ?_⟩
      rw [HZQ.out, if_pos HZ.out]
      exact ⟨rfl, hR1, (Fr2.refl w g g).grown hg1 (fun i e => by cases e; exact .inr (.inl rfl))⟩
    · have hz' : ¬ ((l.drop k).take j).all (fun x => x == 0) = true := fun h => hz ((allZero_iff _).2 h)
      have HZ := hide hz'
      clear hz hz'
      go_wp2
      refine ⟨rfl, .inr ⟨11, by decide, rfl, ?_⟩⟩
      rw [HZQ.out, if_neg HZ.out]
      exact ⟨rfl, h.drewN q, ⟨rfl, rfl, rfl, Nat.le_refl _, fun _ _ _ _ => rfl⟩⟩
  · rw [hT]
    have HC := hide (zero_neg w g m hm)
    clear hT
    go_enter Try.func76, Try.ntmps76
    go_wp2_with fail
    refine HC.out.mono ?_
    rintro e w1 ⟨rfl, q, rfl⟩
    go_wp2
    exact ⟨rfl, .inr ⟨1, by decide, rfl, rfl, h.drewN q, ⟨rfl, rfl, rfl, Nat.le_refl _, fun _ _ _ _ => rfl⟩⟩⟩
  · rw [hT]
    have HC := hide (zero_short w g A _ c k 0 h m hm hn hk hs)
    clear hT
    go_enter Try.func76, Try.ntmps76
    go_wp2_with fail
    refine HC.out.mono ?_
    rintro e w1 ⟨rfl, q, rfl⟩
    go_wp2
    exact ⟨rfl, .inr ⟨10, by decide, rfl, rfl, h.drewN q, ⟨rfl, rfl, rfl, Nat.le_refl _, fun _ _ _ _ => rfl⟩⟩⟩

set_option maxHeartbeats 1000000 in
/-- Zero of a Reader without an error. -/
theorem rzero_any (w : World) (g : Nat) (A : Option Addr) (l : List UInt8) (c k : Nat) (m : Int) (h : Rd w g A l.length c k 0) (hk : k ≤ l.length) (hl : l.length ≤ c) (hn : l.length ≤ 140737488355328) (hb : Byt w g A l) :
    Calls Try.prog 31 #[.pointer (some ⟨g, 0, none⟩), .int .i64 m] w fun e w' => e = .returned (.tuple #[]) ∧ Rd w' g A l.length c (zeroQ l k 0 m).1 (zeroQ l k 0 m).2 ∧ w.grownBy w' (some g) := by
  have hmf : ∀ (fn : Fn) (first cap : Array Value) (w : World), (Instr.makeFunc fn first cap).run Try.prog w = .ok (.func fn first cap) w := fun _ _ _ _ => rfl
  have hgl := h.lt
  obtain ⟨W, hW, hbW, hzW, v0, v1⟩ := two_boxes w (.pointer (some ⟨g, 0, none⟩)) (.int .i64 m) 44 3
  have hRW : Rd W g A l.length c k 0 := h.kept (hbW.block g hgl)
  have hF := zeroC_any (W.alloc (.cells #[.pointer (some ⟨g, 0, none⟩)] 44)) g w.heap.size (w.heap.size + 1) A l c k m (hRW.alloc _) hk hl hn
    (hb.keep (fun p hp => (World.cell?_alloc_lt W _ p (by omega)).trans (hbW.cell (by omega)))) ((Below.heap_alloc W _ _ (by omega)).trans v0) ((Below.heap_alloc W _ _ (by omega)).trans v1)
  obtain ⟨res, hres⟩ : ∃ res, res = zeroQ l k 0 m := ⟨_, rfl⟩
  rw [← hres] at hF ⊢
  have hcall := attempt_any W g A l.length c k 76 #[.pointer (some ⟨w.heap.size, 0, none⟩), .pointer (some ⟨w.heap.size + 1, 0, none⟩)]
    (SkpS (W.alloc (.cells #[.pointer (some ⟨g, 0, none⟩)] 44)) g A l.length c res) hRW (fun W => by simp [go_sem])
    hF
    (fun er w' ⟨_, hr, hf⟩ => ⟨(hf.block _ (by simp) (by omega) (by omega)).trans (heap_alloc_new W _), _, hr⟩)
  have HC := hide hcall
  have HZ := hide hzW
  have hcr : W.cell? ⟨w.heap.size, 0, none⟩ = some (.pointer (some ⟨g, 0, none⟩)) := one_cell v0
  clear hF hcall hres v0 v1 hzW hRW
  go_enter Try.func31, Try.ntmps31
  go_wp2_with fail
  rw [← hW]
  clear hW hcr
  refine HC.out.mono ?_
  rintro e w1 ⟨rfl, hst⟩
  obtain ⟨hrd, hfr⟩ := skp_stays hst
  have hgrow : w.grownBy w1 (some g) := by
    have hz := HZ.out
    refine ⟨hfr.os.trans hbW.os, hfr.tape.trans hbW.tape, hfr.output.trans hbW.output, ?_, fun i hi hr => ?_⟩
    · have := hfr.size; simp at this; omega
    · exact (hfr.block i (by simp; omega) (fun e => hr (by rw [e])) (fun e => hr (by rw [e]))).trans ((Below.heap_alloc W _ i (by omega)).trans (hbW.block i hi))
  have HG := hide hgrow
  have HR := hide hrd
  clear hst hgrow hrd hfr
  go_wp2
  go_end0
  exact ⟨rfl, HR.out, HG.out⟩
end Go.Proofs.Ytgbmamahkpkdfaa
