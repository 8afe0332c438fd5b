/-
  A wheel made; something dropped, set.
-/
import Derived.Test.YtjdedlmphghpnaaWhu
namespace Go.Proofs.Ytjdedlmphghpnaa
open Go.RowKit
set_option maxRecDepth 100000
set_option linter.unusedVariables false
set_option linter.unusedSimpArgs false
attribute [local go_sem ↓] exec_span exec_put exec_build heap_alloc_new heap_old
attribute [local go_sem] spanQ_ptr spanC_some heap_of_drew heap_of_drewN putAt_ptr putOk_ptr oldOk_some World.setRow_alloc_new rs_Due built_due built_due0

def nil64 : List Value := List.replicate 64 (.slice none 0 0)
theorem built_wheel (now : Int) : Try.prog.built 65 [(0, .int .i64 now)] = some (whL now (.map none) nil64 (.slice none 0 0)).toArray := by kernel_rfl
theorem rs_Wheel : rowSize Try.prog 65 = some 67 := by kernel_rfl
theorem WhW.new {w : World} {p : Nat} {now : Int} (h : w.heap[p]? = some (.cells (whL now (.map none) nil64 (.slice none 0 0)).toArray 65 (0, 0))) (hn : 0 ≤ now ∧ now ≤ 1099511627776) : ∃ F, WhW w p now [] F ∧ ∀ k, F k → k = p := by
  have hS : ∀ r, r < 64 → nil64[r]? = some (.slice none 0 0) := fun r hr => by unfold nil64; rw [List.getElem?_replicate, if_pos hr]
  refine ⟨_, ⟨.map none, nil64, .slice none 0 0, [], ⟨h, by simp [nil64], .inl ⟨rfl, rfl⟩, ⟨fun r hr => ⟨_, hS r hr, World.ownsRow_nil _ _ _ _⟩, fun r s u v hr hs hrs hu hv => ?_, World.ownsRow_nil _ _ _ _⟩⟩, TimesOk.nil, ⟨List.Pairwise.nil, by simp, fun q hq => by simp at hq, by simp, hn⟩, rfl⟩, ?_⟩
  · rw [hS r hr] at hu; injection hu with hu; subst hu; exact .inl rfl
  · rintro k (e | e | ⟨r, v, hr, hv, e⟩ | e)
    · exact e
    · cases e
    · rw [hS r hr] at hv; injection hv with hv; subst hv; cases e
    · cases e
/-- what New hands back. -/
def NewWP (w : World) (now : Int) (e : Ending) (w' : World) : Prop :=
  Below w.heap.size w w' ∧ (((0 ≤ now ∧ now ≤ 1099511627776) ∧ ∃ p F, e = .returned (.tuple #[.pointer (some ⟨p, 0, none⟩), .int .i64 0]) ∧ w.heap.size ≤ p ∧ WhW w' p now [] F ∧ ∀ k, F k → k = p) ∨
    (¬ (0 ≤ now ∧ now ≤ 1099511627776) ∧ e = .returned (.tuple #[.pointer none, .int .i64 1])))
set_option maxHeartbeats 2000000 in
theorem newW_any (w : World) (now : Int) : Calls Try.prog 9 #[.int .i64 now] w (NewWP w now) := by
  by_cases h1 : now < 0
  · have HF : Hid (NewWP w now (.returned (.tuple #[.pointer none, .int .i64 1])) w) := hide ⟨Below.refl _ _, .inr ⟨by omega, rfl⟩⟩
    go_enter Try.func9, Try.ntmps9
    go_wp2
    go_ret2
    exact HF.out
  · by_cases h2 : now > 1099511627776
    · have HF : Hid (NewWP w now (.returned (.tuple #[.pointer none, .int .i64 1])) w) := hide ⟨Below.refl _ _, .inr ⟨by omega, rfl⟩⟩
      go_enter Try.func9, Try.ntmps9
      go_wp2
      go_ret2
      exact HF.out
    · have HF : Hid (NewWP w now (.returned (.tuple #[.pointer (some ⟨w.heap.size, 0, none⟩), .int .i64 0])) (w.alloc (.cells (whL now (.map none) nil64 (.slice none 0 0)).toArray 65))) := hide (by
        obtain ⟨F, hF, hF2⟩ := WhW.new (now := now) (heap_alloc_new w (.cells (whL now (.map none) nil64 (.slice none 0 0)).toArray 65)) (by omega)
        exact ⟨(Below.refl _ w).alloc (Nat.le_refl _) _, .inl ⟨by omega, w.heap.size, F, rfl, Nat.le_refl _, hF, hF2⟩⟩)
      have hb := built_wheel now
      have hao : allOne (whL now (.map none) nil64 (.slice none 0 0)).toArray = true := by simp [allOne, Value.oneCell', whL, nil64]
      have hsz : (whL now (.map none) nil64 (.slice none 0 0)).toArray.size = 67 := by simp [whL, nil64]
      have hrs := rs_Wheel
      obtain ⟨X, hX⟩ : ∃ X, X = (whL now (.map none) nil64 (.slice none 0 0)).toArray := ⟨_, rfl⟩
      rw [← hX] at HF hb hao hsz
      clear hX
      go_enter Try.func9, Try.ntmps9
      go_wp2
      go_ret2
      exact HF.out
end Go.Proofs.Ytjdedlmphghpnaa
