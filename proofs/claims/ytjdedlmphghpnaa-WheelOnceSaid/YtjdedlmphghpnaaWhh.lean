/-
  A copy of the first of a row of things that are due; what a wheel is in the memory.
-/
import Derived.Test.YtjdedlmphghpnaaWhg
import Derived.Test.YtjdedlmphghpnaaGa
import Derived.Lib.SliceRun
namespace Go.Proofs.Ytjdedlmphghpnaa
open Go.RowKit
set_option maxRecDepth 100000
set_option linter.unusedVariables false
set_option linter.unusedSimpArgs false

set_option maxHeartbeats 2000000 in
theorem cloneD_any (w : World) (base n m c : Nat) (A : Option Addr) (l : List (Int × Int)) (h : w.ownsRow base 43 2 (.slice A n c) n (rowD l)) (hm : m ≤ n) (hn : n ≤ 1000000) (c' : Nat) :
    Calls Try.prog 33 #[.slice A m c'] w fun e w' => ∃ v, e = .returned v ∧ w'.ownsRow w.heap.size 43 2 v m (rowD (l.take m)) ∧ Below w.heap.size w w' := by
  have q63 := fun (W : World) (a : Option Addr) (n c n' c' : Nat) => Lib.run_eql_slice_nil (P := Try.prog) W 63 _ a n c n' c' Try.underlying63
  rcases h.2 with ⟨e, rfl⟩ | ⟨g, cap, cur, e, hb, hg, hnc, hcm, hsz, ht⟩
  · injection e with e1 e2 e3
    subst e1
    obtain rfl : m = 0 := by omega
    have HF : Hid (w.ownsRow w.heap.size 43 2 (.slice none 0 0) 0 (rowD (l.take 0))) := hide (by rw [List.take_zero]; exact World.ownsRow_nil w w.heap.size 43 2)
    clear h
    go_enter Try.func33, Try.ntmps33
    go_wp2
    go_ret
    exact ⟨_, rfl, HF.out, Below.refl _ _⟩
  · injection e with e1 e2 e3
    subst e1 e3
    obtain ⟨i0, hi0, hz0, hz1, hz2⟩ := info_parts info_due
    have hnews : ∀ W, Below w.heap.size w W → ∀ j u, (rowD (l.take m))[j]? = some u → W.cell? ((⟨g, 0, none⟩ : Addr).add j) = some u := fun W hW j u hj => by
      rw [rowD_take, ← ht, List.take_take, List.getElem?_take] at hj
      rw [add_none, cell_of_row W g (0 + j) _ _ (0, 0) ((hW.block g (Array.getElem?_eq_some_iff.1 hg).1).trans hg), Nat.zero_add]
      split at hj
      · simpa using hj
      · cases hj
    obtain ⟨w1, hw1, r1, z1, b1⟩ := alloc_nm w (.cells #[] 43)
    have hown : w1.ownsRow w.heap.size 43 2 (.slice (some ⟨w.heap.size, 0, none⟩) 0 0) 0 [] := by rw [← hw1]; exact World.ownsRow_made w #[] 0 (Nat.le_refl _) (Nat.zero_le _) (by simp)
    have hlm : (rowD (l.take m)).length = m * 2 := by have := h.1; rw [rowD_len] at this ⊢; rw [List.length_take]; omega
    have hr := fun ty => run_append_own_at (P := Try.prog) w1 w.heap.size 63 ty 43 i0 _ 2 16 Try.underlying63 hi0 hz0 hz1 hz2 rfl (by omega) _ 0 [] hown ⟨g, 0, none⟩ m c' (rowD (l.take m)) hlm (hnews w1 b1) (rowD_one _) (by unfold maxLen; omega) (by omega) (by omega)
    have HR : Hid (∀ ty, ∃ v' w', (Builtin.append_ #[63, 63] ty #[.slice (some ⟨w.heap.size, 0, none⟩) 0 0, .slice (some ⟨g, 0, none⟩) m c']).run Try.prog w1 = .ok v' w' ∧ w'.ownsRow w.heap.size 43 2 v' m (rowD (l.take m)) ∧ Below w.heap.size w w') := hide fun ty => by
      obtain ⟨v', w', h1, h2, h3, -, h5⟩ := hr ty
      rw [Nat.zero_add, List.nil_append] at h2
      exact ⟨v', w', h1, h2, b1.grown h3 (by omega) (fun k hk => by simp [Value.ownBlock] at hk; omega)⟩
    clear hr hnews hown hg ht h hlm r1 b1 hi0 hz0 hz1 hz2
    go_enter Try.func33, Try.ntmps33
    obtain ⟨v', w', hr', HO⟩ := HR.out 63
    have HO' := hide HO
    clear HO HR
    go_wp2_with (first | (at_builtin; refine wpList_append_eq rfl _ _ 63 63 rfl _ _ rfl rfl hr' ?_) | fail)
    go_ret
    exact ⟨_, rfl, HO'.out.1, HO'.out.2⟩
end Go.Proofs.Ytjdedlmphghpnaa
