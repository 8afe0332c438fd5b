/-
  The walk of Spoil of the document's own answers: bytes of the caller's own are written over.
-/
import Derived.Test.YtdmlgogjipcggaaMcu
namespace Go.Proofs.Ytdmlgogjipcggaa
open Go.RowKit
set_option maxRecDepth 100000
set_option linter.unusedVariables false

/-- the slice value v owns, from block 'base' on, a row of bytes, n of them its own; what they are is not said. -/
def OwnX (w : World) (base : Nat) (v : Value) (n : Nat) : Prop :=
  (v = .slice none 0 0 ∧ n = 0) ∨ ∃ g cap cur, v = .slice (some ⟨g, 0, none⟩) n cap ∧ base ≤ g ∧ w.heap[g]? = some (.cells cur 5 (0, 0)) ∧ n ≤ cap ∧ cur.size = cap ∧ cap ≤ maxLen
theorem OwnB.x {w : World} {base : Nat} {v : Value} {l : List UInt8} (h : OwnB w base v l) : OwnX w base v l.length := by
  rcases h.2 with ⟨rfl, h0⟩ | ⟨g, cap, cur, rfl, hb, hg, hn, hm, hsz, _⟩
  · exact .inl ⟨rfl, h0⟩
  · exact .inr ⟨g, cap, cur, rfl, hb, hg, hn, by omega, hm⟩
theorem OwnX.pos {w : World} {base : Nat} {v : Value} {n : Nat} (h : OwnX w base v n) (hp : 0 < n) : ∃ g cap cur, v = .slice (some ⟨g, 0, none⟩) n cap ∧ base ≤ g ∧ w.heap[g]? = some (.cells cur 5 (0, 0)) ∧ n ≤ cap ∧ cur.size = cap ∧ cap ≤ maxLen := by
  rcases h with ⟨_, h0⟩ | h
  · omega
  · exact h
/-- another one, behind writes to the first one's block alone. -/
theorem OwnX.other {w w' : World} {base : Nat} {v v2 : Value} {n n2 : Nat} (h : OwnX w base v n) (h' : OwnX w' base v n) (hg : w.grownBy w' v.ownBlock) (h2 : OwnX w base v2 n2) : OwnX w' base v2 n2 := by
  rcases h2 with h2 | ⟨g2, cap2, cur2, rfl, hb2, hg2, hn2, hs2, hm2⟩
  · exact .inl h2
  · by_cases e : v.ownBlock = some g2
    · rcases h with ⟨rfl, _⟩ | ⟨g, cap, cur, rfl, hb, hgg, hn, hs, hm⟩
      · simp [Value.ownBlock] at e
      · rcases h' with ⟨h', _⟩ | ⟨g', cap', cur', h', hb', hgg', hn', hs', hm'⟩
        · cases h'
        · simp only [Value.slice.injEq, Option.some.injEq, Addr.mk.injEq, and_true, true_and] at h'
          obtain ⟨rfl, rfl⟩ := h'
          simp [Value.ownBlock] at e
          subst e
          rw [hgg] at hg2
          injection hg2 with hg2
          injection hg2 with e1
          subst e1
          exact .inr ⟨g, cap2, cur', rfl, hb2, hgg', hn2, by omega, hm2⟩
    · exact .inr ⟨g2, cap2, cur2, rfl, hb2, (hg.block g2 (Array.getElem?_eq_some_iff.1 hg2).1 (fun e2 => e e2.symm)).trans hg2, hn2, hs2, hm2⟩

theorem OwnX.ne {w : World} {base base' : Nat} {v vv : Value} {n m s : Nat} {t : TypeId} {xs : List Value} (h : OwnX w base v n) (h' : w.ownsRow base' t s vv m xs) (hne : t ≠ 5) : vv.ownBlock = none ∨ vv.ownBlock ≠ v.ownBlock := by
  rcases h with ⟨rfl, _⟩ | ⟨g, cap, cur, rfl, _, hg, _⟩
  · rcases h'.2 with ⟨rfl, _⟩ | ⟨g', cap', cur', rfl, _⟩
    · exact .inl rfl
    · exact .inr (by simp [Value.ownBlock])
  · exact own_ne h' hg hne
theorem OwnX.slice {w : World} {base : Nat} {v : Value} {n : Nat} (h : OwnX w base v n) : ∃ A c, v = .slice A n c := by
  rcases h with ⟨rfl, rfl⟩ | ⟨g, cap, cur, rfl, _⟩
  · exact ⟨none, 0, rfl⟩
  · exact ⟨_, _, rfl⟩
theorem OwnX.below {w w' : World} {base : Nat} {v : Value} {n : Nat} (h : OwnX w base v n) (hb : Below w.heap.size w w') : OwnX w' base v n := by
  rcases h with h | ⟨g, cap, cur, rfl, hbb, hg, hn, hs⟩
  · exact .inl h
  · exact .inr ⟨g, cap, cur, rfl, hbb, (hb.block g (Array.getElem?_eq_some_iff.1 hg).1).trans hg, hn, hs⟩
theorem OwnX.at {w : World} {base : Nat} {v : Value} {n : Nat} (h : OwnX w base v n) : ∀ k, v.ownBlock = some k → base ≤ k := fun k hk => by
  rcases h with ⟨rfl, rfl⟩ | ⟨g, cap, cur, rfl, hb, _⟩
  · simp [Value.ownBlock] at hk
  · simp [Value.ownBlock] at hk; omega
theorem OwnX.grown {w w' : World} {base g : Nat} {v : Value} {n : Nat} (h : OwnX w base v n) (hg : w.grownBy w' (some g)) (hlt : g < base) : OwnX w' base v n := by
  rcases h with h | ⟨gg, cap, cur, rfl, hbb, hgg, hn, hs⟩
  · exact .inl h
  · exact .inr ⟨gg, cap, cur, rfl, hbb, (hg.block gg (Array.getElem?_eq_some_iff.1 hgg).1 (by simp; omega)).trans hgg, hn, hs⟩

set_option maxHeartbeats 1000000 in
theorem spoil_any (w : World) (base : Nat) (A : Option Addr) (n c : Nat) (h : OwnX w base (.slice A n c) n) :
    Calls Try.prog 12 #[.slice A n c] w fun e w' => e = .returned (.tuple #[]) ∧ w.grownBy w' (Value.slice A n c).ownBlock ∧ OwnX w' base (.slice A n c) n := by
  obtain ⟨B, hB⟩ : ∃ B, B = (Value.slice A n c).ownBlock := ⟨_, rfl⟩
  rw [← hB]
  have hn : n ≤ 9223372036854775807 := by
    rcases Nat.eq_zero_or_pos n with h0 | hp
    · omega
    · obtain ⟨_, cap, _, _, _, _, h1, _, h2⟩ := h.pos hp
      unfold maxLen at h2; omega
  have HB := hide hB
  clear hB
  go_enter Try.func12, Try.ntmps12
  go_wp2
  go_loopw [2] (fun i wr => ∃ j : Nat, j ≤ n ∧ i = .int .i64 (j : Int) ∧ Hid (OwnX wr base (.slice A n c) n) ∧ Hid (w.grownBy wr B)) (fun i _ => n - (intOf i).toNat)
  case atStart => exact ⟨0, by omega, rfl, hide h, hide (World.grownBy.refl _ _)⟩
  case round =>
    obtain ⟨j, hj, rfl, hx, hg⟩ := hrel
    by_cases hlt : j < n
    · obtain ⟨g, cap, cur, e, hb, hgg, hnc, hs, hm⟩ := hx.out.pos (by omega)
      simp only [Value.slice.injEq, true_and] at e
      obtain ⟨rfl, rfl⟩ := e
      have hcell : ∃ u, wr.cell? ⟨g, j, none⟩ = some u := ⟨cur[j]'(by omega), by rw [cell_of_row wr g j cur _ (0, 0) hgg]; exact Array.getElem?_eq_getElem (by omega)⟩
      obtain ⟨u, hc⟩ := hcell
      have hf : wr.frozen? ⟨g, j, none⟩ = false := frozen_of_row wr g j _ _ hgg
      have H1 : Hid (OwnX (wr.setCell ⟨g, j, none⟩ (.int .u8 90)) base (.slice (some ⟨g, 0, none⟩) n c) n) := hide (.inr ⟨g, c, _, rfl, hb, heap_setCell_same wr g j _ _ _ hgg, hnc, by rw [Array.size_setIfInBounds]; exact hs, hm⟩)
      have H2 : Hid (w.grownBy (wr.setCell ⟨g, j, none⟩ (.int .u8 90)) B) := hide (by rw [HB.out]; have := hg.out; rw [HB.out] at this; exact grown_trans this (grown_set wr g j _))
      clear hgg hs hx hg h
      go_wp2
      go_roundw
      case rel => exact ⟨j + 1, by omega, by go_num, H1, H2⟩
      case measure => simp [intOf]; omega
    · obtain rfl : j = n := by omega
      clear hlt
      go_wp2
      go_end0
      exact ⟨rfl, hg.out, hx.out⟩
end Go.Proofs.Ytdmlgogjipcggaa
