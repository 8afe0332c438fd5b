/-
  Something taken out from among what is due soon.
-/
import Derived.Test.YtjdedlmphghpnaaWhi
namespace Go.Proofs.Ytjdedlmphghpnaa
open Go.RowKit
set_option maxRecDepth 100000
set_option linter.unusedVariables false
set_option linter.unusedSimpArgs false
attribute [local go_sem ↓] exec_span exec_put exec_build heap_alloc_new heap_old
attribute [local go_sem] spanQ_ptr spanC_some heap_of_drew heap_of_drewN putAt_ptr putOk_ptr oldOk_some World.setRow_alloc_new rs_Due
set_option maxHeartbeats 4000000 in
theorem dropS_any (w : World) (p : Nat) (now : Int) (mv : Value) (S : List Value) (lv : Value) (v : Value) (ids : List Int) (r : Nat) (id at_ : Int)
    (hp : w.heap[p]? = some (.cells (whL now mv S lv).toArray 65 (0, 0))) (hS : S.length = 64) (hr : r < 64) (hv : S[r]? = some v) (ho : w.ownsRow 0 2 1 v ids.length (ids.map izV)) (hs : ids.Pairwise ltZ) (hl : ids.length ≤ 100000)
    (ha : 0 ≤ at_ ∧ at_ % 64 = r) (hid : id ∈ ids) :
    Calls Try.prog 59 #[.pointer (some ⟨p, 2, none⟩), .agg #[.int .i64 id, .int .i64 at_]] w fun e w' => ∃ v', e = .returned (.tuple #[]) ∧ w'.heap[p]? = some (.cells (whL now mv (S.set r v') lv).toArray 65 (0, 0)) ∧
      w'.ownsRow 0 2 1 v' (ids.filter (fun y => decide (y ≠ id))).length ((ids.filter (fun y => decide (y ≠ id))).map izV) ∧ TouchW w w' p v.ownBlock v'.ownBlock := by
  have hpl : p < w.heap.size := (Array.getElem?_eq_some_iff.1 hp).1
  obtain ⟨w1, hw1, r1, z1, b1⟩ := alloc_nm w (.cells #[.int .i64 id, .int .i64 at_] 43)
  have hp1 : w1.heap[p]? = _ := (b1.block p hpl).trans hp
  have c1 : w1.cell? ⟨p, 2 + r, none⟩ = some v := (cell_of_row w1 p (2 + r) _ _ (0, 0) hp1).trans (by rw [List.getElem?_toArray, whL_soon (by omega)]; exact hv)
  have d1 : w1.cell? ⟨w.heap.size, 1, none⟩ = some (.int .i64 at_) := (cell_of_row w1 _ 1 _ _ (0, 0) r1).trans rfl
  have d0 : w1.cell? ⟨w.heap.size, 0, none⟩ = some (.int .i64 id) := (cell_of_row w1 _ 0 _ _ (0, 0) r1).trans rfl
  obtain ⟨A, n, c, rfl, hn⟩ : ∃ A n c, v = .slice A n c ∧ n = ids.length := by
    rcases ho.2 with ⟨e, h0⟩ | ⟨g, cap, cur, e, _⟩
    · exact ⟨none, 0, 0, e, by omega⟩
    · exact ⟨_, _, _, e, rfl⟩
  have HN := hide hn
  clear hn
  have hrem : at_.tmod 64 = (r : Int) := by rw [Int.tmod_eq_emod_of_nonneg ha.1]; exact ha.2
  go_enter Try.func59, Try.ntmps59
  go_upto_region 1 with (fail)
  have i0 := fun q : BW w1 => q.cell c1
  have i1 := fun q : BW w1 => q.cell d1
  have i2 := fun q : BW w1 => q.cell d0
  have hr2 : (r : Int) < 64 := by omega
  refine wp_region_below w1 (Below.refl _ _) (by kernel_rfl) (by kernel_rfl) ?_
  repeat
    first
    | (go_big_quiet_step (fail))
  refine wpQuiet_nil ?_
  intro _ hw'
  obtain ⟨q1, hw2'⟩ := hw'
  subst hw2'
  have hcr : ∀ W, Below w1.heap.size w1 W → ∀ j y, ids[j]? = some y → ∃ b, A = some ⟨b, 0, none⟩ ∧ W.cell? ⟨b, j, none⟩ = some (.int .i64 y) := fun W hW j y hj => by
    rcases ho.2 with ⟨e, h0⟩ | ⟨g, cap, cur, e, hb, hg, hnc, hm, hsz, ht⟩
    · have := (List.getElem?_eq_some_iff.1 hj).1; omega
    · injection e with e1 e2 e3
      refine ⟨g, e1, ?_⟩
      have hgl := (Array.getElem?_eq_some_iff.1 hg).1
      rw [cell_of_row W g j _ _ (0, 0) ((hW.block g (by omega)).trans ((b1.block g hgl).trans hg))]
      have : (ids.map izV)[j]? = some (.int .i64 y) := by rw [List.getElem?_map, hj]; rfl
      rw [← ht, List.getElem?_take] at this
      split at this
      · simpa using this
      · cases this
  have hdi : decide (id ∈ ids) = true := decide_eq_true hid
  have KB := hide (fun q : BW q1.w => bsI_fix q.w A n c ids id HN.out.symm (hcr q.w (q1.below.trans (q.below.mono q1.below.size))) hs (by have := HN.out; omega))
  rw [hdi] at KB
  clear hdi
  have j0 := fun q : BW q1.w => q.cell (i0 q1)
  have j2 := fun q : BW q1.w => q.cell (i2 q1)
  clear i1 hcr
  go_upto_region 2 with (fail)
  refine wp_region_below q1.w (Below.refl _ _) (by kernel_rfl) (by kernel_rfl) ?_
  repeat
    first
    | (go_big_quiet_step (first | (go_at_call 35; with_reducible exact Calls.bel_same (KB.out _)) | fail))
  refine wpQuiet_nil ?_
  intro _ hw'
  obtain ⟨q2, hw2'⟩ := hw'
  subst hw2'
  obtain ⟨W, hW⟩ : ∃ W, W = q2.w := ⟨_, rfl⟩
  have hB : Below w.heap.size w W := by rw [hW]; exact (b1.trans (q1.below.mono (by omega))).trans (q2.below.mono (by have := q1.below.size; omega))
  have k0 := j0 q2
  have k2 := j2 q2
  rw [← hW] at k0 k2 ⊢
  have hpW : W.heap[p]? = _ := (hB.block p hpl).trans hp
  have hoW : W.ownsRow 0 2 1 (.slice A n c) ids.length (ids.map izV) := row_bel ho hB
  have hzW := hB.size
  clear hW q2 KB j0 j2 i0 i2 q1 c1 d1 d0 hp1 r1 b1
  have hob : ∀ k, (Value.slice A n c).ownBlock = some k → k < w.heap.size := fun k hk => (ho.lt k hk).2
  have hne : (Value.slice A n c).ownBlock ≠ some p := fun e => by
    rcases ho.2 with ⟨e', h0⟩ | ⟨g, cap, cur, e', hb, hg, -⟩
    · rw [e'] at e; simp [Value.ownBlock] at e
    · rw [e'] at e
      simp only [Value.ownBlock, Option.some.injEq] at e
      subst e
      rw [hp] at hg; injection hg with hg; injection hg with _ hg; exact absurd hg (by decide)
  rw [← HN.out] at hoW
  have hat := (posL_mem ordZ hs).1 hid
  have hil : posLw ltZ id ids + 1 ≤ n := by have := (List.getElem?_eq_some_iff.1 hat).1; rw [HN.out]; omega
  have KI := hide (delI_any W 0 (posLw ltZ id ids) (posLw ltZ id ids + 1) n (.slice A n c) (ids.map izV) hoW (izV_one ids) (by omega) hil)
  have HF : Hid (∀ v' w3, w3.ownsRow 0 2 1 v' (n - (posLw ltZ id ids + 1 - posLw ltZ id ids)) ((ids.map izV).take (posLw ltZ id ids * 1) ++ (ids.map izV).drop ((posLw ltZ id ids + 1) * 1)) → W.grownBy w3 (Value.slice A n c).ownBlock → v'.ownBlock = (Value.slice A n c).ownBlock →
      w3.cell? ⟨p, 2 + r, none⟩ = some (.slice A n c) ∧ w3.frozen? ⟨p, 2 + r, none⟩ = false ∧ (w3.setCell ⟨p, 2 + r, none⟩ v').heap[p]? = some (.cells (whL now mv (S.set r v') lv).toArray 65 (0, 0)) ∧
      (w3.setCell ⟨p, 2 + r, none⟩ v').ownsRow 0 2 1 v' (ids.filter (fun y => decide (y ≠ id))).length ((ids.filter (fun y => decide (y ≠ id))).map izV) ∧ TouchW w (w3.setCell ⟨p, 2 + r, none⟩ v') p (Value.slice A n c).ownBlock v'.ownBlock ∧ ∃ A' n' c', v' = .slice A' n' c') := hide fun v' w3 h1 h2 h3 => by
    have hp3 : w3.heap[p]? = _ := (h2.block p (by omega) (fun e => hne e.symm)).trans hpW
    have hne' : v'.ownBlock ≠ some p := by rw [h3]; exact hne
    have e0 := del_at ordZ hs hat
    have e1 : (ids.filter (fun y => decide (y ≠ id))).map izV = (ids.map izV).take (posLw ltZ id ids * 1) ++ (ids.map izV).drop ((posLw ltZ id ids + 1) * 1) := by
      rw [Nat.mul_one, Nat.mul_one, ← e0, List.map_append, List.map_take, List.map_drop]
    have e2 : (ids.filter (fun y => decide (y ≠ id))).length = n - (posLw ltZ id ids + 1 - posLw ltZ id ids) := by
      rw [← e0, List.length_append, List.length_take, List.length_drop, ← HN.out]; omega
    have hgs : w3.grownBy (w3.setCell ⟨p, 2 + r, none⟩ v') (some p) := by
      refine ⟨by rw [setCell_eq_setRow w3 p _ _ _ _ _ hp3]; rfl, by rw [setCell_eq_setRow w3 p _ _ _ _ _ hp3]; rfl, by rw [setCell_eq_setRow w3 p _ _ _ _ _ hp3]; rfl, by rw [setCell_eq_setRow w3 p _ _ _ _ _ hp3]; simp, fun k hk hk2 => setCell_other' hp3 v' (fun e => hk2 (by rw [e]))⟩
    refine ⟨(cell_of_row w3 p (2 + r) _ _ (0, 0) hp3).trans (by rw [List.getElem?_toArray, whL_soon (by omega)]; exact hv), by simp [World.frozen?, hp3], ?_, ?_, ?_, ?_⟩
    · rw [setCell_block hp3, whL_set (by omega)]
    · rw [e1, e2]
      exact h1.kept hgs (.inr hne')
    · refine ⟨hgs.os.trans (h2.os.trans hB.os), hgs.tape.trans (h2.tape.trans hB.tape), hgs.output.trans (h2.output.trans hB.output), by have := h2.size; have := hgs.size; omega, fun k hk h4 h5 => ?_, .inl h3⟩
      rw [hgs.block k (by have := h2.size; omega) (by simpa using h4), h2.block k (by omega) h5]
      exact hB.block k hk
    · rcases h1.2 with ⟨e, _⟩ | ⟨g, cap, cur, e, _⟩
      · exact ⟨_, _, _, e⟩
      · exact ⟨_, _, _, e⟩
  have hpo : (((posLw ltZ id ids + 1 : Nat) : Int)) = (posLw ltZ id ids : Int) + 1 := by omega
  have hpn : (posLw ltZ id ids : Int) ≤ 100000 := by have := HN.out; omega
  obtain ⟨P, hP⟩ : ∃ P, P = posLw ltZ id ids := ⟨_, rfl⟩
  rw [← hP] at KI HF hpo hpn ⊢
  rw [hpo] at KI
  clear hp hpW hoW ho hob hne hB hs hl hv hS hw1 hat hil hid hP hpo hr
  go_wp2_with (first | (go_at_call 60; (with_reducible refine KI.out.mono ?_); rintro e w3 ⟨v', rfl, g1, g2, g3⟩; have F3 := HF.out v' w3 g1 g2 g3; clear g1 g2 g3; obtain ⟨f1, f2, f3, f4, f5, A', n', c', rfl⟩ := F3; have HF3 := hide (And.intro f3 (And.intro f4 f5)); clear f3 f4 f5) | fail)
  all_goals
    (try simp only [Exit.inBlock, Exit.then]); refine bodyPost_end (results_none rfl _ _ _) rfl ?_
    exact ⟨_, rfl, HF3.out⟩
end Go.Proofs.Ytjdedlmphghpnaa
