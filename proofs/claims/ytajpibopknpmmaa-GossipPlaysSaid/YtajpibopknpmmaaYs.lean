/-
  The walk of Spoil of the document's own answers, free of the cursor: bytes of the caller's own are written over.
-/
import Derived.Test.YtajpibopknpmmaaYe
namespace Go.Proofs.Ytajpibopknpmmaa
open Go.RowKit
set_option maxRecDepth 100000
set_option linter.unusedVariables false

/-- the slice value v owns, from block 'base' on, a row of bytes, n of them its own; what they are is not said. -/
def OwnY (w : World) (base : Nat) (v : Value) (n : Nat) : Prop :=
  (v = .slice none 0 0 ∧ n = 0) ∨ ∃ g cap cur, v = .slice (some ⟨g, 0, none⟩) n cap ∧ base ≤ g ∧ w.heap[g]? = some (.cells cur 5 (0, 0)) ∧ n ≤ cap ∧ cur.size = cap ∧ cap ≤ maxLen
theorem OwnB.y {w : World} {base : Nat} {v : Value} {l : List UInt8} (h : OwnB w base v l) : OwnY w base v l.length := by
  rcases h.2 with ⟨rfl, h0⟩ | ⟨g, cap, cur, rfl, hb, hg, hn, hm, hsz, _⟩
  · exact .inl ⟨rfl, h0⟩
  · exact .inr ⟨g, cap, cur, rfl, hb, hg, hn, by omega, hm⟩
theorem OwnY.pos {w : World} {base : Nat} {v : Value} {n : Nat} (h : OwnY w base v n) (hp : 0 < n) : ∃ g cap cur, v = .slice (some ⟨g, 0, none⟩) n cap ∧ base ≤ g ∧ w.heap[g]? = some (.cells cur 5 (0, 0)) ∧ n ≤ cap ∧ cur.size = cap ∧ cap ≤ maxLen := by
  rcases h with ⟨_, h0⟩ | h
  · omega
  · exact h
theorem OwnY.below {w w' : World} {base : Nat} {v : Value} {n : Nat} (h : OwnY w base v n) (hb : Below w.heap.size w w') : OwnY w' base v n := by
  rcases h with h | ⟨g, cap, cur, rfl, hbb, hg, hn, hs⟩
  · exact .inl h
  · exact .inr ⟨g, cap, cur, rfl, hbb, (hb.block g (Array.getElem?_eq_some_iff.1 hg).1).trans hg, hn, hs⟩
set_option maxHeartbeats 1000000 in
theorem spoilY_any (w : World) (base : Nat) (A : Option Addr) (n c : Nat) (h : OwnY w base (.slice A n c) n) :
    Calls Try.prog 15 #[.slice A n c] w fun e w' => e = .returned (.tuple #[]) ∧ w.grownBy w' (Value.slice A n c).ownBlock ∧ OwnY w' base (.slice A n c) n := by
  obtain ⟨B, hB⟩ : ∃ B, B = (Value.slice A n c).ownBlock := ⟨_, rfl⟩
  rw [← hB]
  have hn : n ≤ 9223372036854775807 := by
    rcases Nat.eq_zero_or_pos n with h0 | hp
    · omega
    · obtain ⟨_, cap, _, _, _, _, h1, _, h2⟩ := h.pos hp
      unfold maxLen at h2; omega
  have HB := hide hB
  clear hB
  go_enter Try.func15, Try.ntmps15
  go_wp2
  go_loopw [2] (fun i wr => ∃ j : Nat, j ≤ n ∧ i = .int .i64 (j : Int) ∧ Hid (OwnY wr base (.slice A n c) n) ∧ Hid (w.grownBy wr B)) (fun i _ => n - (Go.RowKit.intOf i).toNat)
  case atStart => exact ⟨0, by omega, rfl, hide h, hide (World.grownBy.refl _ _)⟩
  case round =>
    obtain ⟨j, hj, rfl, hx, hg⟩ := hrel
    by_cases hlt : j < n
    · obtain ⟨g, cap, cur, e, hb, hgg, hnc, hs, hm⟩ := hx.out.pos (by omega)
      simp only [Value.slice.injEq, true_and] at e
      obtain ⟨rfl, rfl⟩ := e
      have hcell : ∃ u, wr.cell? ⟨g, j, none⟩ = some u := ⟨cur[j]'(by omega), by rw [cell_of_row wr g j cur _ (0, 0) hgg]; exact Array.getElem?_eq_getElem (by omega)⟩
      obtain ⟨u, hc⟩ := hcell
      have hf : wr.frozen? ⟨g, j, none⟩ = false := frozen_of_row wr g j _ _ hgg
      have H1 : Hid (OwnY (wr.setCell ⟨g, j, none⟩ (.int .u8 90)) base (.slice (some ⟨g, 0, none⟩) n c) n) := hide (.inr ⟨g, c, _, rfl, hb, heap_setCell_same wr g j _ _ _ hgg, hnc, by rw [Array.size_setIfInBounds]; exact hs, hm⟩)
      have H2 : Hid (w.grownBy (wr.setCell ⟨g, j, none⟩ (.int .u8 90)) B) := hide (by rw [HB.out]; have := hg.out; rw [HB.out] at this; exact World.grownBy.trans this (grown_set wr g j _))
      clear hgg hs hx hg h
      go_wp2
      go_roundw
      case rel => exact ⟨j + 1, by omega, by go_num, H1, H2⟩
      case measure => simp [Go.RowKit.intOf]; omega
    · obtain rfl : j = n := by omega
      clear hlt
      go_wp2
      go_end0
      exact ⟨rfl, hg.out, hx.out⟩
end Go.Proofs.Ytajpibopknpmmaa
