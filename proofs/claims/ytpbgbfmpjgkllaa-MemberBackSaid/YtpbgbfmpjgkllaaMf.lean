/-
  The newest of what is heard; two views side by side.
-/
import Derived.Test.YtpbgbfmpjgkllaaMe
import Derived.Test.YtpbgbfmpjgkllaaMx
namespace Go.Proofs.Ytpbgbfmpjgkllaa
open Go.RowKit
set_option linter.unusedVariables false
set_option linter.unusedSimpArgs false

/-- how one is seen when that is heard of it. -/
def bestI (x i : Int × Int) : Int × Int := if rightI i = true ∧ newerI i x = true then i else x
theorem hear_two (x i : Int × Int) : (hearR [(0, 0), x] 0 1 i).2.2 = [(0, 0), bestI x i] := by
  unfold hearR bestI
  have h1 : hasV [(0, 0), x] 1 = true := rfl
  have h2 : getV [(0, 0), x] 1 = x := rfl
  rw [h1, h2]
  by_cases hr : rightI i = true
  · rw [if_pos ⟨rfl, hr⟩, if_neg (by simp)]
    by_cases hn : newerI i x = true
    · rw [if_pos hn, if_pos ⟨hr, hn⟩]; rfl
    · rw [if_neg hn, if_neg (fun h => hn h.2)]
  · rw [if_neg (fun h => hr h.2), if_neg (fun h => hr h.1)]
theorem best_right {x i : Int × Int} (h : rightI x = true) : rightI (bestI x i) = true := by
  unfold bestI
  split
  · next hc => exact hc.1
  · exact h
theorem best_mem (x i : Int × Int) : bestI x i = x ∨ bestI x i = i := by
  unfold bestI
  split
  · exact .inr rfl
  · exact .inl rfl
theorem best_seen {x i z : Int × Int} (h : newerI z x = false) : newerI z (bestI x i) = false := by
  unfold bestI
  split
  · next hc =>
    cases hz : newerI z i with
    | false => rfl
    | true => rw [newerI_trans hz hc.2] at h; cases h
  · exact h
theorem best_self {x i : Int × Int} (h : rightI i = true) : newerI i (bestI x i) = false := by
  unfold bestI
  split
  · exact newerI_self i
  · next hc =>
    cases hz : newerI i x with
    | false => rfl
    | true => exact absurd ⟨h, hz⟩ hc
/-- is the newest of L, or none of it is seen; a is of L or none. -/
structure TopI (L M : List (Int × Int)) (y : Int × Int) : Prop where
  right : rightI y = true
  mem : y = (0, 0) ∨ y ∈ L
  seen : ∀ x ∈ M, rightI x = true → newerI x y = false
theorem TopI.nil (L : List (Int × Int)) : TopI L [] (0, 0) := ⟨by decide, .inl rfl, by simp⟩
theorem TopI.step {L L' M M' : List (Int × Int)} {y i : Int × Int} (h : TopI L M y) (hL : ∀ x ∈ L, x ∈ L') (hi : i ∈ L') (hM : ∀ x ∈ M', x ∈ M ∨ x = i) : TopI L' M' (bestI y i) := by
  refine ⟨best_right h.right, ?_, fun x hx hr => ?_⟩
  · rcases best_mem y i with e | e
    · rw [e]; exact h.mem.elim .inl (fun hm => .inr (hL _ hm))
    · rw [e]; exact .inr hi
  · rcases hM x hx with hx | rfl
    · exact best_seen (h.seen x hx hr)
    · exact best_self hr
theorem TopI.one {L : List (Int × Int)} {y z : Int × Int} (h : TopI L L y) (h' : TopI L L z) : y = z := by
  have key : ∀ {a b : Int × Int}, TopI L L a → TopI L L b → newerI a b = false := fun {a b} ha hb => by
    rcases ha.mem with e | hm
    · have := hb.right
      obtain ⟨s, i⟩ := b
      rw [e]
      unfold rightI at this
      simp only [Bool.and_eq_true, decide_eq_true_eq] at this
      unfold newerI
      simp
      omega
    · exact hb.seen a hm ha.right
  by_cases e : y = z
  · exact e
  · have h1 := newerI_other e
    rw [key h h', key h' h] at h1
    cases h1
/-- two views and a box. -/
structure MeetS (w : World) (B g1 b1 g2 b2 gb : Nat) (x y z : Int × Int) : Prop where
  v : ViewS w g1 b1 0 [(0, 0), x]
  u : ViewS w g2 b2 0 [(0, 0), y]
  box : w.heap[gb]? = some (.cells #[.int .i64 z.1, .int .i64 z.2] 23 (0, 0))
  far : B ≤ b1 ∧ B ≤ b2 ∧ B ≤ gb
  ne : b1 ≠ b2 ∧ b1 ≠ g2 ∧ b2 ≠ g1 ∧ gb ≠ b1 ∧ gb ≠ b2 ∧ gb ≠ g1 ∧ gb ≠ g2
theorem ViewS.other {w w' : World} {g b r : Nat} {me : Int} {l : List (Int × Int)} (h : ViewS w g b me l) (hg : w.grownBy w' (some r)) (h1 : r ≠ g) (h2 : r ≠ b) : ViewS w' g b me l :=
  ⟨(hg.block g h.lt (fun e => h1 (Option.some.inj e).symm)).trans h.row, h.map.of_heap (hg.block b h.map.lt (fun e => h2 (Option.some.inj e).symm))⟩
theorem MeetS.blt {w : World} {B g1 b1 g2 b2 gb : Nat} {x y z : Int × Int} (h : MeetS w B g1 b1 g2 b2 gb x y z) : gb < w.heap.size := (Array.getElem?_eq_some_iff.1 h.box).1
theorem MeetS.below {w w' : World} {B g1 b1 g2 b2 gb : Nat} {x y z : Int × Int} (h : MeetS w B g1 b1 g2 b2 gb x y z) (hb : Below w.heap.size w w') : MeetS w' B g1 b1 g2 b2 gb x y z :=
  ⟨h.v.below hb (Nat.le_refl _), h.u.below hb (Nat.le_refl _), (hb.block gb h.blt).trans h.box, h.far, h.ne⟩
theorem MeetS.hear1 {w w' : World} {B g1 b1 g2 b2 gb : Nat} {x y z x' : Int × Int} (h : MeetS w B g1 b1 g2 b2 gb x y z) (hv : ViewS w' g1 b1 0 [(0, 0), x']) (hg : w.grownBy w' (some b1)) : MeetS w' B g1 b1 g2 b2 gb x' y z :=
  ⟨hv, h.u.other hg h.ne.2.1 h.ne.1, (hg.block gb h.blt (fun e => h.ne.2.2.2.1 (Option.some.inj e))).trans h.box, h.far, h.ne⟩
theorem MeetS.hear2 {w w' : World} {B g1 b1 g2 b2 gb : Nat} {x y z y' : Int × Int} (h : MeetS w B g1 b1 g2 b2 gb x y z) (hv : ViewS w' g2 b2 0 [(0, 0), y']) (hg : w.grownBy w' (some b2)) : MeetS w' B g1 b1 g2 b2 gb x y' z :=
  ⟨h.v.other hg h.ne.2.2.1 (fun e => h.ne.1 e.symm), hv, (hg.block gb h.blt (fun e => h.ne.2.2.2.2.1 (Option.some.inj e))).trans h.box, h.far, h.ne⟩
theorem MeetS.put {w : World} {B g1 b1 g2 b2 gb : Nat} {x y z : Int × Int} (h : MeetS w B g1 b1 g2 b2 gb x y z) (z' : Int × Int) : MeetS (w.setRow gb #[.int .i64 z'.1, .int .i64 z'.2]) B g1 b1 g2 b2 gb x y z' := by
  have hg : w.grownBy (w.setRow gb #[.int .i64 z'.1, .int .i64 z'.2]) (some gb) := ⟨rfl, rfl, rfl, by simp, fun k _ hk => setRow_other w gb k _ (fun e => hk (by rw [e]))⟩
  exact ⟨h.v.other hg h.ne.2.2.2.2.2.1 h.ne.2.2.2.1, h.u.other hg h.ne.2.2.2.2.2.2 h.ne.2.2.2.2.1, setRow_heap _ _ _ _ _ _ h.box, h.far, h.ne⟩
end Go.Proofs.Ytpbgbfmpjgkllaa
