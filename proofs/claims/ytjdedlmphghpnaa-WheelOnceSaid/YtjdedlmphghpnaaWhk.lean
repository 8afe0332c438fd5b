/-
  Something put among what is due late.
-/
import Derived.Test.YtjdedlmphghpnaaWhj
namespace Go.Proofs.Ytjdedlmphghpnaa
open Go.RowKit
set_option maxRecDepth 100000
set_option linter.unusedVariables false
set_option linter.unusedSimpArgs false
attribute [local go_sem ↓] exec_span exec_put exec_build heap_alloc_new heap_old
attribute [local go_sem] spanQ_ptr spanC_some heap_of_drew heap_of_drewN putAt_ptr putOk_ptr oldOk_some World.setRow_alloc_new rs_Due

set_option maxHeartbeats 4000000 in
theorem putL_any (w : World) (p : Nat) (now : Int) (mv : Value) (S : List Value) (v : Value) (l : List (Int × Int)) (id at_ : Int)
    (hp : w.heap[p]? = some (.cells (whL now mv S v).toArray 65 (0, 0))) (hS : S.length = 64) (ho : w.ownsRow 0 43 2 v l.length (rowD l)) (hs : l.Pairwise ltD) (hl : l.length ≤ 100000) :
    Calls Try.prog 62 #[.pointer (some ⟨p, 66, none⟩), .agg #[.int .i64 id, .int .i64 at_]] w fun e w' => ∃ v', e = .returned (.tuple #[]) ∧ w'.heap[p]? = some (.cells (whL now mv S v').toArray 65 (0, 0)) ∧
      w'.ownsRow 0 43 2 v' (insL ltD (id, at_) l).length (rowD (insL ltD (id, at_) l)) ∧ TouchW w w' p v.ownBlock v'.ownBlock := by
  have hpl : p < w.heap.size := (Array.getElem?_eq_some_iff.1 hp).1
  obtain ⟨w1, hw1, r1, z1, b1⟩ := alloc_nm w (.cells #[.int .i64 id, .int .i64 at_] 43)
  have hp1 : w1.heap[p]? = _ := (b1.block p hpl).trans hp
  have hv66 : (whL now mv S v)[66]? = some v := by have := whL_late (now := now) (mv := mv) (S := S) (lv := v); rwa [hS] at this
  have c1 : w1.cell? ⟨p, 66, none⟩ = some v := (cell_of_row w1 p 66 _ _ (0, 0) hp1).trans (by rw [List.getElem?_toArray]; exact hv66)
  obtain ⟨A, n, c, rfl, hn⟩ : ∃ A n c, v = .slice A n c ∧ n = l.length := by
    rcases ho.2 with ⟨e, h0⟩ | ⟨g, cap, cur, e, _⟩
    · exact ⟨none, 0, 0, e, by omega⟩
    · exact ⟨_, _, _, e, rfl⟩
  have HN := hide hn
  have hrd : RowD w1 A l := by
    obtain ⟨A', c', e, -, -, -, h⟩ := RowD.of_own ho
    injection e with e1 e2 e3
    rw [e1]; exact h.below b1
  clear hn
  have KB := hide (fun q : BW w1 => bsD_fix q.w A n c l id at_ HN.out.symm (hrd.below q.below) hs (by have := HN.out; omega))
  have j0 := fun q : BW w1 => q.cell c1
  have j2 := fun q : BW w1 => q.block r1
  have hx0 : (#[Value.int .i64 id, Value.int .i64 at_] : Array Value).extract 0 2 = #[Value.int .i64 id, Value.int .i64 at_] := rfl
  clear hrd hv66
  go_enter Try.func62, Try.ntmps62
  go_upto_region 1 with (fail)
  refine wp_region_below w1 (Below.refl _ _) (by kernel_rfl) (by kernel_rfl) ?_
  repeat
    first
    | (go_big_quiet_step (first | (go_at_call 63; with_reducible exact Calls.bel (KB.out _)) | fail))
    | (go_big_quiet_want; apply quiet_span; (intro p; go_simp; rfl); (try simp only [Act.put, List.setIfInBounds_toArray, List.set_cons_zero, List.set_cons_succ]); go_big_quiet_on)
  refine wpQuiet_nil ?_
  intro _ hw'
  obtain ⟨q2, hw2'⟩ := hw'
  subst hw2'
  obtain ⟨W, hW⟩ : ∃ W, W = q2.w := ⟨_, rfl⟩
  have hB : Below w.heap.size w W := by rw [hW]; exact b1.trans (q2.below.mono (by omega))
  have k0 := j0 q2
  have k2 := j2 q2
  rw [← hW] at k0 k2 ⊢
  have hpW : W.heap[p]? = _ := (hB.block p hpl).trans hp
  have hoW : W.ownsRow 0 43 2 (.slice A n c) l.length (rowD l) := row_bel ho hB
  have hzW := hB.size
  clear hW q2 KB j0 j2 c1 hp1 r1 b1
  have hob : ∀ k, (Value.slice A n c).ownBlock = some k → k < w.heap.size := fun k hk => (ho.lt k hk).2
  have hne : (Value.slice A n c).ownBlock ≠ some p := fun e => by
    rcases ho.2 with ⟨e', h0⟩ | ⟨g, cap, cur, e', hb, hg, -⟩
    · rw [e'] at e; simp [Value.ownBlock] at e
    · rw [e'] at e
      simp only [Value.ownBlock, Option.some.injEq] at e
      subst e
      rw [hp] at hg; injection hg with hg; injection hg with _ hg; exact absurd hg (by decide)
  rw [← HN.out] at hoW
  obtain ⟨W2, hw2, r2, z2, b2⟩ := alloc_nm W.drew (.cells #[.int .i64 id, .int .i64 at_] 43)
  have l0 : W.drew.cell? ⟨p, 66, none⟩ = some (.slice A n c) := k0
  have l2 : W.drew.heap[w.heap.size]? = _ := k2
  have hzl : w.heap.size < W.heap.size := (Array.getElem?_eq_some_iff.1 k2).1
  have m0 : W2.cell? ⟨p, 66, none⟩ = some (.slice A n c) := (b2.cell (show (⟨p, 66, none⟩ : Addr).block < W.drew.heap.size from Nat.lt_of_lt_of_le hpl hzW)).trans k0
  have m2 : W2.heap[w.heap.size]? = _ := (b2.block _ hzl).trans k2
  have hp2 : W2.heap[p]? = _ := (b2.block p (Nat.lt_of_lt_of_le hpl hzW)).trans hpW
  have ho2 : W2.ownsRow 0 43 2 (.slice A n c) n (rowD l) := by
    have hd : W.drew.ownsRow 0 43 2 (.slice A n c) n (rowD l) := hoW
    exact row_bel hd b2
  have KI := hide (insD_any W2 0 W.heap.size (posLw ltD (id, at_) l) n (.slice A n c) (rowD l) [.int .i64 id, .int .i64 at_] ho2 (by simpa using r2) rfl (by intro u hu; simp at hu; rcases hu with rfl | rfl <;> rfl) (rowD_one l) (fun e => by have := hob _ e; omega) (by rw [HN.out]; exact (posL_is ordDu hs).le) (by rw [HN.out]; omega) (Nat.zero_le _))
  have HF : Hid (∀ v' w3, w3.ownsRow 0 43 2 v' (n + 1) ((rowD l).take (posLw ltD (id, at_) l * 2) ++ ([.int .i64 id, .int .i64 at_] ++ (rowD l).drop (posLw ltD (id, at_) l * 2))) → W2.grownBy w3 (Value.slice A n c).ownBlock → (v'.ownBlock = (Value.slice A n c).ownBlock ∨ v'.ownBlock = some W2.heap.size) →
      w3.cell? ⟨p, 66, none⟩ = some (.slice A n c) ∧ w3.frozen? ⟨p, 66, none⟩ = false ∧ (w3.setCell ⟨p, 66, none⟩ v').heap[p]? = some (.cells (whL now mv S v').toArray 65 (0, 0)) ∧
      (w3.setCell ⟨p, 66, none⟩ v').ownsRow 0 43 2 v' (insL ltD (id, at_) l).length (rowD (insL ltD (id, at_) l)) ∧ TouchW w (w3.setCell ⟨p, 66, none⟩ v') p (Value.slice A n c).ownBlock v'.ownBlock ∧ ∃ A' n' c', v' = .slice A' n' c') := hide fun v' w3 h1 h2 h3 => by
    have hz2 : w.heap.size ≤ W2.heap.size := by have := b2.size; have : W.drew.heap.size = W.heap.size := rfl; omega
    have hp3 : w3.heap[p]? = _ := (h2.block p (by omega) (fun e => hne e.symm)).trans hp2
    have hne' : v'.ownBlock ≠ some p := by
      rcases h3 with e | e
      · rw [e]; exact hne
      · rw [e]; simp only [ne_eq, Option.some.injEq]; omega
    have e1 : rowD (insL ltD (id, at_) l) = (rowD l).take (posLw ltD (id, at_) l * 2) ++ ([.int .i64 id, .int .i64 at_] ++ (rowD l).drop (posLw ltD (id, at_) l * 2)) := by
      rw [← posL_ins ordDu hs, rowD_app, rowD_take, rowD, rowD_drop]; rfl
    have e66 : (whL now mv S (.slice A n c)).set 66 v' = whL now mv S v' := by have := whL_setL (now := now) (mv := mv) (S := S) (lv := Value.slice A n c) (v := v'); rwa [hS] at this
    have hgs : w3.grownBy (w3.setCell ⟨p, 66, none⟩ v') (some p) := by
      refine ⟨by rw [setCell_eq_setRow w3 p _ _ _ _ _ hp3]; rfl, by rw [setCell_eq_setRow w3 p _ _ _ _ _ hp3]; rfl, by rw [setCell_eq_setRow w3 p _ _ _ _ _ hp3]; rfl, by rw [setCell_eq_setRow w3 p _ _ _ _ _ hp3]; simp, fun k hk hk2 => setCell_other' hp3 v' (fun e => hk2 (by rw [e]))⟩
    refine ⟨(cell_of_row w3 p 66 _ _ (0, 0) hp3).trans (by rw [List.getElem?_toArray]; have := whL_late (now := now) (mv := mv) (S := S) (lv := Value.slice A n c); rwa [hS] at this), by simp [World.frozen?, hp3], ?_, ?_, ?_, ?_⟩
    · rw [setCell_block hp3, e66]
    · rw [e1, insL_len, ← HN.out]
      exact h1.kept hgs (.inr hne')
    · refine ⟨hgs.os.trans (h2.os.trans (b2.os.trans hB.os)), hgs.tape.trans (h2.tape.trans (b2.tape.trans hB.tape)), hgs.output.trans (h2.output.trans (b2.output.trans hB.output)), by have := h2.size; have := hgs.size; omega, fun k hk h4 h5 => ?_, ?_⟩
      · rw [hgs.block k (by have := h2.size; omega) (by simpa using h4), h2.block k (by omega) h5, b2.block k (by have : W.drew.heap.size = W.heap.size := rfl; omega)]
        exact hB.block k hk
      · rcases h3 with e | e
        · exact .inl e
        · exact .inr ⟨_, e, hz2⟩
    · rcases h1.2 with ⟨e, _⟩ | ⟨g, cap, cur, e, _⟩
      · exact ⟨_, _, _, e⟩
      · exact ⟨_, _, _, e⟩
  have HW2 := hide hw2
  clear hp hpW hoW ho ho2 hp2 hob hne r2 z2 b2 z1 hB k0 l2 hs hl hS hw1 hzl hpl hzW
  go_upto_region 2 with (fail)
  go_region_law (first | (go_simp; go_at_call 65; (with_reducible refine KI.out.mono ?_); rintro e w3 ⟨v', rfl, g1, g2, g3⟩; have F3 := HF.out v' w3 g1 g2 g3; clear g1 g2 g3; obtain ⟨f1, f2, f3, f4, f5, A', n', c', rfl⟩ := F3; have HF3 := hide (And.intro f3 (And.intro f4 f5)); clear f3 f4 f5) | fail)
  all_goals
    go_wp2
    (try simp only [Exit.inBlock, Exit.then]); refine bodyPost_end (results_none rfl _ _ _) rfl ?_
    exact ⟨_, rfl, HF3.out⟩
end Go.Proofs.Ytjdedlmphghpnaa
