/-
  Which of two Specs is ahead, and the one that is not; can a Spec be.
-/
import Derived.Test.YtmbddengmheeeaaLff
namespace Go.Proofs.Ytmbddengmheeeaa
open Go.RowKit
set_option maxRecDepth 100000
set_option linter.unusedVariables false
set_option linter.unusedSimpArgs false
attribute [local go_sem ↓] exec_span exec_put exec_build heap_alloc_new heap_old
attribute [local go_sem] spanQ_ptr spanC_some heap_of_drew heap_of_drewN rs_ad rs_spec putAt_ptr putOk_ptr oldOk_some store_fl

def adEq (s t : Spc) : Bool := s.av == t.av && s.ab == t.ab
def spAhead (s t : Spc) : Bool :=
  if s.st = t.st then (if s.by_ = t.by_ then (if adEq s t = true then lessB s.wt t.wt else lessA s.av s.ab t.av t.ab) else decide (s.by_ < t.by_)) else decide (s.st < t.st)
set_option maxHeartbeats 4000000 in
theorem aheadsp_any (w : World) (X Y : Array Value) (s t : Spc) (h : SpV X s) (h' : SpV Y t) : Calls Try.prog 48 #[.agg X, .agg Y] w (BoolP w (spAhead s t)) := by
  have hF : Hid (∀ w' r, Below w.heap.size w w' → r = spAhead s t → BoolP w (spAhead s t) (.returned (.bool r)) w') := hide fun w' r hb hr => ⟨by rw [hr], hb⟩
  have he : spAhead s t = if s.st = t.st then (if s.by_ = t.by_ then (if adEq s t = true then lessB s.wt t.wt else lessA s.av s.ab t.av t.ab) else decide (s.by_ < t.by_)) else decide (s.st < t.st) := rfl
  generalize spAhead s t = R at hF he ⊢
  obtain ⟨W, hW, r1, r2, hz, hb⟩ := two_new w X Y 31
  obtain ⟨a0, a1, a3⟩ := h.cells r1
  obtain ⟨b0, b1, b3⟩ := h'.cells r2
  have A1 : AdV (adL s.av s.ab).toArray s.av s.ab := AdV.mk' h.la
  have A2 : AdV (adL t.av t.ab).toArray t.av t.ab := AdV.mk' h'.la
  have KL := hide (fun W1 => less_any W1 _ _ _ _ _ _ A1 A2)
  have KW := hide (fun W1 => lessW_any s.wt t.wt W1 h.wf h'.wf)
  have hNE := fun W1 => neq_ad W1 _ _ _ _ _ _ A1 A2
  have hea : (s.av == t.av && s.ab == t.ab) = adEq s t := rfl
  have hxa := h.addr
  have hya := h'.addr
  rw [hea] at hNE
  have hxs := h.size
  have hys := h'.size
  generalize (adL s.av s.ab).toArray = XA at KL hNE hxa
  generalize (adL t.av t.ab).toArray = YA at KL hNE hya
  obtain ⟨ea, hea2⟩ : ∃ ea, ea = adEq s t := ⟨_, rfl⟩
  rw [← hea2] at hNE he
  obtain ⟨st, hst⟩ : ∃ st, st = s.st := ⟨_, rfl⟩
  obtain ⟨st', hst'⟩ : ∃ st', st' = t.st := ⟨_, rfl⟩
  obtain ⟨by1, hby⟩ : ∃ by1, by1 = s.by_ := ⟨_, rfl⟩
  obtain ⟨by2, hby'⟩ : ∃ by2, by2 = t.by_ := ⟨_, rfl⟩
  rw [← hst, ← hst', ← hby, ← hby'] at he
  rw [← hst] at a0
  rw [← hst'] at b0
  rw [← hby] at a1
  rw [← hby'] at b1
  have HB := hide hb
  have HZ := hide hz
  have hFB := hide (fun r (h : r = R) => hF.out W r hb h)
  clear h h' A1 A2 hea hea2 hst hst' hby hby' hb hz
  by_cases c1 : st = st'
  · rw [if_pos c1] at he
    subst c1
    by_cases c2 : by1 = by2
    · rw [if_pos c2] at he
      subst c2
      cases ea
      · rw [if_neg (by simp)] at he
        have HE := hide he
        clear he
        go_enter Try.func48, Try.ntmps48
        go_wp2_with fail
        refine (KL.out _).mono ?_
        rintro e w1 ⟨rfl, b1⟩
        have B1 := hide (HB.out.trans (b1.mono (by have := HZ.out; omega)))
        clear b1
        go_wp2
        go_ret
        exact hF.out _ _ B1.out HE.out.symm
      · rw [if_pos rfl] at he
        have HE := hide he
        clear he
        go_enter Try.func48, Try.ntmps48
        go_wp2_with fail
        refine (KW.out _).mono ?_
        rintro e w1 ⟨rfl, rfl⟩
        go_wp2
        go_ret
        exact hFB.out _ HE.out.symm
    · rw [if_neg c2] at he
      have HE := hide he
      have hne : (by1 != by2) = true := by simpa using c2
      clear he c2
      go_enter Try.func48, Try.ntmps48
      go_wp2
      go_ret
      exact hFB.out _ HE.out.symm
  · rw [if_neg c1] at he
    have HE := hide he
    have hne : (st != st') = true := by simpa using c1
    clear he c1
    go_enter Try.func48, Try.ntmps48
    go_wp2
    go_ret
    exact hFB.out _ HE.out.symm
end Go.Proofs.Ytmbddengmheeeaa
