/-
  A wheel's block; something put among what is due soon, and taken out.
-/
import Derived.Test.YtjdedlmphghpnaaWhh
import Derived.Deep.RegionWith
namespace Go.Proofs.Ytjdedlmphghpnaa
open Go.RowKit
set_option maxRecDepth 100000
set_option linter.unusedVariables false
set_option linter.unusedSimpArgs false
attribute [local go_sem ↓] exec_span exec_put exec_build heap_alloc_new heap_old
attribute [local go_sem] spanQ_ptr spanC_some heap_of_drew heap_of_drewN putAt_ptr putOk_ptr oldOk_some World.setRow_alloc_new rs_Due

/-- a wheel's cells. -/
def whL (now : Int) (mv : Value) (S : List Value) (lv : Value) : List Value := .int .i64 now :: mv :: (S ++ [lv])
theorem whL_len (now : Int) (mv : Value) (S : List Value) (lv : Value) : (whL now mv S lv).length = S.length + 3 := by simp [whL]
theorem whL_soon {now : Int} {mv : Value} {S : List Value} {lv : Value} {r : Nat} (hr : r < S.length) : (whL now mv S lv)[2 + r]? = S[r]? := by
  rw [show 2 + r = r + 1 + 1 by omega]
  simp only [whL, List.getElem?_cons_succ]
  rw [List.getElem?_append_left hr]
theorem whL_late {now : Int} {mv : Value} {S : List Value} {lv : Value} : (whL now mv S lv)[2 + S.length]? = some lv := by
  rw [show 2 + S.length = S.length + 1 + 1 by omega]
  simp [whL]
theorem whL_set {now : Int} {mv : Value} {S : List Value} {lv v : Value} {r : Nat} (hr : r < S.length) : (whL now mv S lv).set (2 + r) v = whL now mv (S.set r v) lv := by
  rw [show 2 + r = r + 1 + 1 by omega]
  simp only [whL, List.set_cons_succ, List.set_append_left _ _ hr]
theorem whL_setL {now : Int} {mv : Value} {S : List Value} {lv v : Value} : (whL now mv S lv).set (2 + S.length) v = whL now mv S v := by
  rw [show 2 + S.length = S.length + 1 + 1 by omega]
  simp [whL]
/-- a cell stored. -/
theorem setCell_block {w : World} {g j : Nat} {cs : List Value} {t : TypeId} (h : w.heap[g]? = some (.cells cs.toArray t (0, 0))) (v : Value) : (w.setCell ⟨g, j, none⟩ v).heap[g]? = some (.cells (cs.set j v).toArray t (0, 0)) := by
  rw [setCell_eq_setRow w g j cs.toArray t (0, 0) v h, setRow_heap w g _ _ t _ h]
  simp
theorem setCell_other' {w : World} {g j k : Nat} {cs : List Value} {t : TypeId} (h : w.heap[g]? = some (.cells cs.toArray t (0, 0))) (v : Value) (hk : k ≠ g) : (w.setCell ⟨g, j, none⟩ v).heap[k]? = w.heap[k]? := by
  rw [setCell_eq_setRow w g j cs.toArray t (0, 0) v h, setRow_other w g k _ hk]
/-- what a call leaves that writes into one row of a wheel. -/
structure TouchW (w w' : World) (p : Nat) (o o' : Option Nat) : Prop where
  os : w'.os = w.os
  tape : w'.tape = w.tape
  output : w'.output = w.output
  size : w.heap.size ≤ w'.heap.size
  block : ∀ k, k < w.heap.size → k ≠ p → some k ≠ o → w'.heap[k]? = w.heap[k]?
  own : o' = o ∨ ∃ g, o' = some g ∧ w.heap.size ≤ g
theorem row_bel {w w' : World} {base e k n : Nat} {v : Value} {xs : List Value} (h : w.ownsRow base e k v n xs) (hb : Below w.heap.size w w') : w'.ownsRow base e k v n xs :=
  h.kept (grown_ofB hb none) (by cases hv : v.ownBlock <;> simp)
set_option maxHeartbeats 4000000 in
theorem putS_any (w : World) (p : Nat) (now : Int) (mv : Value) (S : List Value) (lv : Value) (v : Value) (ids : List Int) (r : Nat) (id at_ : Int)
    (hp : w.heap[p]? = some (.cells (whL now mv S lv).toArray 65 (0, 0))) (hS : S.length = 64) (hr : r < 64) (hv : S[r]? = some v) (ho : w.ownsRow 0 2 1 v ids.length (ids.map izV)) (hs : ids.Pairwise ltZ) (hl : ids.length ≤ 100000)
    (ha : 0 ≤ at_ ∧ at_ % 64 = r) :
    Calls Try.prog 30 #[.pointer (some ⟨p, 2, none⟩), .agg #[.int .i64 id, .int .i64 at_]] w fun e w' => ∃ v', e = .returned (.tuple #[]) ∧ w'.heap[p]? = some (.cells (whL now mv (S.set r v') lv).toArray 65 (0, 0)) ∧
      w'.ownsRow 0 2 1 v' (insL ltZ id ids).length ((insL ltZ id ids).map izV) ∧ TouchW w w' p v.ownBlock v'.ownBlock := by
  have hpl : p < w.heap.size := (Array.getElem?_eq_some_iff.1 hp).1
  obtain ⟨w1, hw1, r1, z1, b1⟩ := alloc_nm w (.cells #[.int .i64 id, .int .i64 at_] 43)
  have hp1 : w1.heap[p]? = _ := (b1.block p hpl).trans hp
  have c1 : w1.cell? ⟨p, 2 + r, none⟩ = some v := (cell_of_row w1 p (2 + r) _ _ (0, 0) hp1).trans (by rw [List.getElem?_toArray, whL_soon (by omega)]; exact hv)
  have d1 : w1.cell? ⟨w.heap.size, 1, none⟩ = some (.int .i64 at_) := (cell_of_row w1 _ 1 _ _ (0, 0) r1).trans rfl
  have d0 : w1.cell? ⟨w.heap.size, 0, none⟩ = some (.int .i64 id) := (cell_of_row w1 _ 0 _ _ (0, 0) r1).trans rfl
  obtain ⟨A, n, c, rfl, hn⟩ : ∃ A n c, v = .slice A n c ∧ n = ids.length := by
    rcases ho.2 with ⟨e, h0⟩ | ⟨g, cap, cur, e, _⟩
    · exact ⟨none, 0, 0, e, by omega⟩
    · exact ⟨_, _, _, e, rfl⟩
  have HN := hide hn
  clear hn
  have hrem : at_.tmod 64 = (r : Int) := by rw [Int.tmod_eq_emod_of_nonneg ha.1]; exact ha.2
  go_enter Try.func30, Try.ntmps30
  go_upto_region 1 with (fail)
  have i0 := fun q : BW w1 => q.cell c1
  have i1 := fun q : BW w1 => q.cell d1
  have i2 := fun q : BW w1 => q.cell d0
  have hr2 : (r : Int) < 64 := by omega
  refine wp_region_below w1 (Below.refl _ _) (by kernel_rfl) (by kernel_rfl) ?_
  repeat
    first
    | (go_big_quiet_step (fail))
  refine wpQuiet_nil ?_
  intro _ hw'
  obtain ⟨q1, hw2'⟩ := hw'
  subst hw2'
  have hcr : ∀ W, Below w1.heap.size w1 W → ∀ j y, ids[j]? = some y → ∃ b, A = some ⟨b, 0, none⟩ ∧ W.cell? ⟨b, j, none⟩ = some (.int .i64 y) := fun W hW j y hj => by
    rcases ho.2 with ⟨e, h0⟩ | ⟨g, cap, cur, e, hb, hg, hnc, hm, hsz, ht⟩
    · have := (List.getElem?_eq_some_iff.1 hj).1; omega
    · injection e with e1 e2 e3
      refine ⟨g, e1, ?_⟩
      have hgl := (Array.getElem?_eq_some_iff.1 hg).1
      rw [cell_of_row W g j _ _ (0, 0) ((hW.block g (by omega)).trans ((b1.block g hgl).trans hg))]
      have : (ids.map izV)[j]? = some (.int .i64 y) := by rw [List.getElem?_map, hj]; rfl
      rw [← ht, List.getElem?_take] at this
      split at this
      · simpa using this
      · cases this
  have KB := hide (fun q : BW q1.w => bsI_fix q.w A n c ids id HN.out.symm (hcr q.w (q1.below.trans (q.below.mono q1.below.size))) hs (by have := HN.out; omega))
  have j0 := fun q : BW q1.w => q.cell (i0 q1)
  have j2 := fun q : BW q1.w => q.cell (i2 q1)
  clear i1 hcr
  go_upto_region 2 with (fail)
  refine wp_region_below q1.w (Below.refl _ _) (by kernel_rfl) (by kernel_rfl) ?_
  repeat
    first
    | (go_big_quiet_step (first | (go_at_call 35; with_reducible exact Calls.bel_same (KB.out _)) | fail))
  refine wpQuiet_nil ?_
  intro _ hw'
  obtain ⟨q2, hw2'⟩ := hw'
  subst hw2'
  obtain ⟨W, hW⟩ : ∃ W, W = q2.w := ⟨_, rfl⟩
  have hB : Below w.heap.size w W := by rw [hW]; exact (b1.trans (q1.below.mono (by omega))).trans (q2.below.mono (by have := q1.below.size; omega))
  have k0 := j0 q2
  have k2 := j2 q2
  rw [← hW] at k0 k2 ⊢
  have hpW : W.heap[p]? = _ := (hB.block p hpl).trans hp
  have hoW : W.ownsRow 0 2 1 (.slice A n c) ids.length (ids.map izV) := row_bel ho hB
  have hzW := hB.size
  clear hW q2 KB j0 j2 i0 i2 q1 c1 d1 d0 hp1 r1 b1
  obtain ⟨W2, hw2, r2, z2, b2⟩ := alloc_nm W.drew (.cells #[.int .i64 id] 2)
  have l0 : W.drew.cell? ⟨p, 2 + r, none⟩ = some (.slice A n c) := k0
  have l2 : W.drew.cell? ⟨w.heap.size, 0, none⟩ = some (.int .i64 id) := k2
  have m0 : W2.cell? ⟨p, 2 + r, none⟩ = some (.slice A n c) := (b2.cell (show (⟨p, 2 + r, none⟩ : Addr).block < W.drew.heap.size from Nat.lt_of_lt_of_le hpl hzW)).trans k0
  have m2 : W2.cell? ⟨w.heap.size, 0, none⟩ = some (.int .i64 id) := (b2.cell (show (⟨w.heap.size, 0, none⟩ : Addr).block < W.drew.heap.size from World.block_lt_of_cell? W _ k2)).trans k2
  have hp2 : W2.heap[p]? = _ := (b2.block p (Nat.lt_of_lt_of_le hpl hzW)).trans hpW
  have ho2 : W2.ownsRow 0 2 1 (.slice A n c) n (ids.map izV) := by
    have hd : W.drew.ownsRow 0 2 1 (.slice A n c) ids.length (ids.map izV) := hoW
    have := row_bel hd b2
    rwa [← HN.out] at this
  have hob : ∀ k, (Value.slice A n c).ownBlock = some k → k < w.heap.size := fun k hk => (ho.lt k hk).2
  have hne : (Value.slice A n c).ownBlock ≠ some p := fun e => by
    rcases ho.2 with ⟨e', h0⟩ | ⟨g, cap, cur, e', hb, hg, -⟩
    · rw [e'] at e; simp [Value.ownBlock] at e
    · rw [e'] at e
      simp only [Value.ownBlock, Option.some.injEq] at e
      subst e
      rw [hp] at hg; injection hg with hg; injection hg with _ hg; exact absurd hg (by decide)
  have KI := hide (insI_any W2 0 W.heap.size (posLw ltZ id ids) n (.slice A n c) (ids.map izV) [.int .i64 id] ho2 (by simpa using r2) rfl (by intro u hu; simp at hu; subst hu; rfl) (izV_one ids) (fun e => by have := hob _ e; omega) (by rw [HN.out]; exact (posL_is ordZ hs).le) (by rw [HN.out]; omega) (Nat.zero_le _))
  have HF : Hid (∀ v' w3, w3.ownsRow 0 2 1 v' (n + 1) ((ids.map izV).take (posLw ltZ id ids * 1) ++ ([.int .i64 id] ++ (ids.map izV).drop (posLw ltZ id ids * 1))) → W2.grownBy w3 (Value.slice A n c).ownBlock → (v'.ownBlock = (Value.slice A n c).ownBlock ∨ v'.ownBlock = some W2.heap.size) →
      w3.cell? ⟨p, 2 + r, none⟩ = some (.slice A n c) ∧ w3.frozen? ⟨p, 2 + r, none⟩ = false ∧ (w3.setCell ⟨p, 2 + r, none⟩ v').heap[p]? = some (.cells (whL now mv (S.set r v') lv).toArray 65 (0, 0)) ∧
      (w3.setCell ⟨p, 2 + r, none⟩ v').ownsRow 0 2 1 v' (insL ltZ id ids).length ((insL ltZ id ids).map izV) ∧ TouchW w (w3.setCell ⟨p, 2 + r, none⟩ v') p (Value.slice A n c).ownBlock v'.ownBlock ∧ ∃ A' n' c', v' = .slice A' n' c') := hide fun v' w3 h1 h2 h3 => by
    have hp3 : w3.heap[p]? = _ := (h2.block p (by have := b2.size; have : W.drew.heap.size = W.heap.size := rfl; omega) (fun e => hne e.symm)).trans hp2
    have hne' : v'.ownBlock ≠ some p := by
      rcases h3 with e | e
      · rw [e]; exact hne
      · rw [e]; simp only [ne_eq, Option.some.injEq]; have := b2.size; have : W.drew.heap.size = W.heap.size := rfl; omega
    have e1 : (insL ltZ id ids).map izV = (ids.map izV).take (posLw ltZ id ids * 1) ++ ([.int .i64 id] ++ (ids.map izV).drop (posLw ltZ id ids * 1)) := by
      rw [Nat.mul_one, ← posL_ins ordZ hs, List.map_append, List.map_cons, List.map_take, List.map_drop]; rfl
    have hgs : w3.grownBy (w3.setCell ⟨p, 2 + r, none⟩ v') (some p) := by
      refine ⟨by rw [setCell_eq_setRow w3 p _ _ _ _ _ hp3]; rfl, by rw [setCell_eq_setRow w3 p _ _ _ _ _ hp3]; rfl, by rw [setCell_eq_setRow w3 p _ _ _ _ _ hp3]; rfl, by rw [setCell_eq_setRow w3 p _ _ _ _ _ hp3]; simp, fun k hk hk2 => setCell_other' hp3 v' (fun e => hk2 (by rw [e]))⟩
    refine ⟨(cell_of_row w3 p (2 + r) _ _ (0, 0) hp3).trans (by rw [List.getElem?_toArray, whL_soon (by omega)]; exact hv), by simp [World.frozen?, hp3], ?_, ?_, ?_, ?_⟩
    · rw [setCell_block hp3, whL_set (by omega)]
    · rw [e1, insL_len, ← HN.out]
      exact h1.kept hgs (.inr hne')
    · have hz : w.heap.size ≤ W2.heap.size := by have := b2.size; have : W.drew.heap.size = W.heap.size := rfl; omega
      refine ⟨hgs.os.trans (h2.os.trans (b2.os.trans hB.os)), hgs.tape.trans (h2.tape.trans (b2.tape.trans hB.tape)), hgs.output.trans (h2.output.trans (b2.output.trans hB.output)), by have := h2.size; have := hgs.size; omega, fun k hk h4 h5 => ?_, ?_⟩
      · rw [hgs.block k (by have := h2.size; omega) (by simpa using h4), h2.block k (by omega) h5, b2.block k (by have : W.drew.heap.size = W.heap.size := rfl; omega)]
        exact hB.block k hk
      · rcases h3 with e | e
        · exact .inl e
        · exact .inr ⟨_, e, hz⟩
    · rcases h1.2 with ⟨e, _⟩ | ⟨g, cap, cur, e, _⟩
      · exact ⟨_, _, _, e⟩
      · exact ⟨_, _, _, e⟩
  have HW2 := hide hw2
  clear hp hpW hoW ho ho2 hp2 hob hne r2 z2 b2 z1 hB k0 k2 hs hl hv hS hw1
  go_upto_region 3 with (fail)
  go_region_law (first | (go_simp; go_at_call 36; (with_reducible refine KI.out.mono ?_); rintro e w3 ⟨v', rfl, g1, g2, g3⟩; have F3 := HF.out v' w3 g1 g2 g3; clear g1 g2 g3; obtain ⟨f1, f2, f3, f4, f5, A', n', c', rfl⟩ := F3; have HF3 := hide (And.intro f3 (And.intro f4 f5)); clear f3 f4 f5) | fail)
  all_goals
    go_wp2
    (try simp only [Exit.inBlock, Exit.then]); refine bodyPost_end (results_none rfl _ _ _) rfl ?_
    exact ⟨_, rfl, HF3.out⟩
end Go.Proofs.Ytjdedlmphghpnaa
