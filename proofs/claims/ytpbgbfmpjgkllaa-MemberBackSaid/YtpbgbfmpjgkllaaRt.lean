/-
  The walks of the document's own Reader: bytes, zeros, a new one.
-/
import Derived.Test.YtpbgbfmpjgkllaaRr
namespace Go.Proofs.Ytpbgbfmpjgkllaa
open Go.RowKit
set_option maxRecDepth 100000
set_option linter.unusedVariables false

/-- where bytes leave the document's own Reader, what it answers, the error. -/
def takeQ (l : List UInt8) (k : Nat) (er m : Int) : Nat × List UInt8 × Int :=
  if fitE er (decide (0 ≤ m)) l.length k m = 0 then (k + m.toNat, (l.drop k).take m.toNat, 0) else (k, [], fitE er (decide (0 ≤ m)) l.length k m)
theorem fitE_zero {er : Int} {len k : Nat} {m : Int} (h : fitE er (decide (0 ≤ m)) len k m = 0) : er = 0 ∧ 0 ≤ m ∧ m ≤ (len : Int) - k := by
  unfold fitE at h
  by_cases he : er = 0
  · rw [if_neg (by simp [he])] at h
    by_cases h1 : decide (0 ≤ m) = false
    · rw [if_pos h1] at h; exact absurd h (by decide)
    · rw [if_neg h1] at h
      by_cases h2 : (len : Int) - k < m
      · rw [if_pos h2] at h; exact absurd h (by decide)
      · simp at h1; exact ⟨he, by omega, by omega⟩
  · rw [if_pos he] at h; exact absurd h he

/-- where zeros leave the document's own Reader, the error. -/
def zeroQ (l : List UInt8) (k : Nat) (er m : Int) : Nat × Int :=
  if fitE er (decide (0 ≤ m)) l.length k m = 0 then (if ((l.drop k).take m.toNat).all (fun x => x == 0) = true then (k + m.toNat, 0) else (k, 11)) else (k, fitE er (decide (0 ≤ m)) l.length k m)

set_option maxHeartbeats 1000000 in
/-- a new Reader of the document's own, of a copy of the bytes. -/
theorem ofq_any (w : World) (B : Nat) (A : Option Addr) (l : List UInt8) (c : Nat) (hn : l.length ≤ 140737488355328) (hb : Byt w B A l) (hB : B ≤ w.heap.size) (hnil : A = none → c = 0) :
    Calls Try.prog 54 #[.slice A l.length c] w fun e w' => ∃ g A' c', e = .returned (.pointer (some ⟨g, 0, none⟩)) ∧ Rr w' g A' l.length c' 0 0 ∧ Byt w' g A' l ∧ l.length ≤ c' ∧ (A' = none → c' = 0) ∧ w.heap.size ≤ g ∧ Below w.heap.size w w' := by
  go_enter Try.func54, Try.ntmps54
  go_wp2_with (at_builtin; refine wpList_app_bytes rfl (.tmp 4) (.tmp 5) rfl w.heap.size (.slice none 0 0) [] l B c A rfl rfl (OwnB.nil _ _) hb hnil (by simp; omega) (Nat.le_refl _) ?_)
  intro v1 w1 hown hg1 hat1
  obtain ⟨A', c', hv, hl', hby, hnil', _⟩ := hown.shape
  subst hv
  have hb1 : Below w.heap.size w w1 := (Below.refl _ _).grown hg1 (Nat.le_refl _) (fun k hk => by simp [Value.ownBlock] at hk)
  go_wp2
  go_ret
  refine ⟨w1.heap.size, A', c', rfl, ⟨heap_alloc_new w1 _⟩, hby.keep (fun p hp => World.cell?_alloc_lt w1 _ p hp), hl', hnil', hb1.size, hb1.alloc hb1.size _⟩
end Go.Proofs.Ytpbgbfmpjgkllaa
