/-
  Something taken out from among what is due late.
-/
import Derived.Test.YtjdedlmphghpnaaWhj
namespace Go.Proofs.Ytjdedlmphghpnaa
open Go.RowKit
set_option maxRecDepth 100000
set_option linter.unusedVariables false
set_option linter.unusedSimpArgs false
attribute [local go_sem ↓] exec_span exec_put exec_build heap_alloc_new heap_old
attribute [local go_sem] spanQ_ptr spanC_some heap_of_drew heap_of_drewN putAt_ptr putOk_ptr oldOk_some World.setRow_alloc_new rs_Due

set_option maxHeartbeats 4000000 in
theorem dropL_any (w : World) (p : Nat) (now : Int) (mv : Value) (S : List Value) (v : Value) (l : List (Int × Int)) (id at_ : Int)
    (hp : w.heap[p]? = some (.cells (whL now mv S v).toArray 65 (0, 0))) (hS : S.length = 64) (ho : w.ownsRow 0 43 2 v l.length (rowD l)) (hs : l.Pairwise ltD) (hl : l.length ≤ 100000) (hid : (id, at_) ∈ l) :
    Calls Try.prog 61 #[.pointer (some ⟨p, 66, none⟩), .agg #[.int .i64 id, .int .i64 at_]] w fun e w' => ∃ v', e = .returned (.tuple #[]) ∧ w'.heap[p]? = some (.cells (whL now mv S v').toArray 65 (0, 0)) ∧
      w'.ownsRow 0 43 2 v' (l.filter (fun y => decide (y ≠ (id, at_)))).length (rowD (l.filter (fun y => decide (y ≠ (id, at_))))) ∧ TouchW w w' p v.ownBlock v'.ownBlock := by
  have hpl : p < w.heap.size := (Array.getElem?_eq_some_iff.1 hp).1
  obtain ⟨w1, hw1, r1, z1, b1⟩ := alloc_nm w (.cells #[.int .i64 id, .int .i64 at_] 43)
  have hp1 : w1.heap[p]? = _ := (b1.block p hpl).trans hp
  have hv66 : (whL now mv S v)[66]? = some v := by have := whL_late (now := now) (mv := mv) (S := S) (lv := v); rwa [hS] at this
  have c1 : w1.cell? ⟨p, 66, none⟩ = some v := (cell_of_row w1 p 66 _ _ (0, 0) hp1).trans (by rw [List.getElem?_toArray]; exact hv66)
  obtain ⟨A, n, c, rfl, hn⟩ : ∃ A n c, v = .slice A n c ∧ n = l.length := by
    rcases ho.2 with ⟨e, h0⟩ | ⟨g, cap, cur, e, _⟩
    · exact ⟨none, 0, 0, e, by omega⟩
    · exact ⟨_, _, _, e, rfl⟩
  have HN := hide hn
  have hrd : RowD w1 A l := by
    obtain ⟨A', c', e, -, -, -, h⟩ := RowD.of_own ho
    injection e with e1 e2 e3
    rw [e1]; exact h.below b1
  clear hn
  have KB := hide (fun q : BW w1 => bsD_fix q.w A n c l id at_ HN.out.symm (hrd.below q.below) hs (by have := HN.out; omega))
  rw [decide_eq_true hid] at KB
  have j0 := fun q : BW w1 => q.cell c1
  have j2 := fun q : BW w1 => q.block r1
  have hx0 : (#[Value.int .i64 id, Value.int .i64 at_] : Array Value).extract 0 2 = #[Value.int .i64 id, Value.int .i64 at_] := rfl
  clear hrd hv66
  go_enter Try.func61, Try.ntmps61
  go_upto_region 1 with (fail)
  refine wp_region_below w1 (Below.refl _ _) (by kernel_rfl) (by kernel_rfl) ?_
  repeat
    first
    | (go_big_quiet_step (first | (go_at_call 63; with_reducible exact Calls.bel (KB.out _)) | fail))
    | (go_big_quiet_want; apply quiet_span; (intro p; go_simp; rfl); (try simp only [Act.put, List.setIfInBounds_toArray, List.set_cons_zero, List.set_cons_succ]); go_big_quiet_on)
  refine wpQuiet_nil ?_
  intro _ hw'
  obtain ⟨q2, hw2'⟩ := hw'
  subst hw2'
  obtain ⟨W, hW⟩ : ∃ W, W = q2.w := ⟨_, rfl⟩
  have hB : Below w.heap.size w W := by rw [hW]; exact b1.trans (q2.below.mono (by omega))
  have k0 := j0 q2
  have k2 := j2 q2
  rw [← hW] at k0 k2 ⊢
  have hpW : W.heap[p]? = _ := (hB.block p hpl).trans hp
  have hoW : W.ownsRow 0 43 2 (.slice A n c) l.length (rowD l) := row_bel ho hB
  have hzW := hB.size
  clear hW q2 KB j0 j2 c1 hp1 r1 b1
  have hob : ∀ k, (Value.slice A n c).ownBlock = some k → k < w.heap.size := fun k hk => (ho.lt k hk).2
  have hne : (Value.slice A n c).ownBlock ≠ some p := fun e => by
    rcases ho.2 with ⟨e', h0⟩ | ⟨g, cap, cur, e', hb, hg, -⟩
    · rw [e'] at e; simp [Value.ownBlock] at e
    · rw [e'] at e
      simp only [Value.ownBlock, Option.some.injEq] at e
      subst e
      rw [hp] at hg; injection hg with hg; injection hg with _ hg; exact absurd hg (by decide)
  rw [← HN.out] at hoW
  have hat := (posL_mem ordDu hs).1 hid
  have hil : posLw ltD (id, at_) l + 1 ≤ n := by have := (List.getElem?_eq_some_iff.1 hat).1; rw [HN.out]; omega
  have KI := hide (delD_any W 0 (posLw ltD (id, at_) l) (posLw ltD (id, at_) l + 1) n (.slice A n c) (rowD l) hoW (rowD_one l) (by omega) hil)
  have HF : Hid (∀ v' w3, w3.ownsRow 0 43 2 v' (n - (posLw ltD (id, at_) l + 1 - posLw ltD (id, at_) l)) ((rowD l).take (posLw ltD (id, at_) l * 2) ++ (rowD l).drop ((posLw ltD (id, at_) l + 1) * 2)) → W.grownBy w3 (Value.slice A n c).ownBlock → v'.ownBlock = (Value.slice A n c).ownBlock →
      w3.cell? ⟨p, 66, none⟩ = some (.slice A n c) ∧ w3.frozen? ⟨p, 66, none⟩ = false ∧ (w3.setCell ⟨p, 66, none⟩ v').heap[p]? = some (.cells (whL now mv S v').toArray 65 (0, 0)) ∧
      (w3.setCell ⟨p, 66, none⟩ v').ownsRow 0 43 2 v' (l.filter (fun y => decide (y ≠ (id, at_)))).length (rowD (l.filter (fun y => decide (y ≠ (id, at_))))) ∧ TouchW w (w3.setCell ⟨p, 66, none⟩ v') p (Value.slice A n c).ownBlock v'.ownBlock ∧ ∃ A' n' c', v' = .slice A' n' c') := hide fun v' w3 h1 h2 h3 => by
    have hp3 : w3.heap[p]? = _ := (h2.block p (by omega) (fun e => hne e.symm)).trans hpW
    have hne' : v'.ownBlock ≠ some p := by rw [h3]; exact hne
    have e0 := del_at ordDu hs hat
    have e1 : rowD (l.filter (fun y => decide (y ≠ (id, at_)))) = (rowD l).take (posLw ltD (id, at_) l * 2) ++ (rowD l).drop ((posLw ltD (id, at_) l + 1) * 2) := by
      rw [← e0, rowD_app, rowD_take, rowD_drop]
    have e2 : (l.filter (fun y => decide (y ≠ (id, at_)))).length = n - (posLw ltD (id, at_) l + 1 - posLw ltD (id, at_) l) := by
      rw [← e0, List.length_append, List.length_take, List.length_drop, ← HN.out]; omega
    have e66 : (whL now mv S (.slice A n c)).set 66 v' = whL now mv S v' := by have := whL_setL (now := now) (mv := mv) (S := S) (lv := Value.slice A n c) (v := v'); rwa [hS] at this
    have hgs : w3.grownBy (w3.setCell ⟨p, 66, none⟩ v') (some p) := by
      refine ⟨by rw [setCell_eq_setRow w3 p _ _ _ _ _ hp3]; rfl, by rw [setCell_eq_setRow w3 p _ _ _ _ _ hp3]; rfl, by rw [setCell_eq_setRow w3 p _ _ _ _ _ hp3]; rfl, by rw [setCell_eq_setRow w3 p _ _ _ _ _ hp3]; simp, fun k hk hk2 => setCell_other' hp3 v' (fun e => hk2 (by rw [e]))⟩
    refine ⟨(cell_of_row w3 p 66 _ _ (0, 0) hp3).trans (by rw [List.getElem?_toArray]; have := whL_late (now := now) (mv := mv) (S := S) (lv := Value.slice A n c); rwa [hS] at this), by simp [World.frozen?, hp3], ?_, ?_, ?_, ?_⟩
    · rw [setCell_block hp3, e66]
    · rw [e1, e2]
      exact h1.kept hgs (.inr hne')
    · refine ⟨hgs.os.trans (h2.os.trans hB.os), hgs.tape.trans (h2.tape.trans hB.tape), hgs.output.trans (h2.output.trans hB.output), by have := h2.size; have := hgs.size; omega, fun k hk h4 h5 => ?_, .inl h3⟩
      rw [hgs.block k (by have := h2.size; omega) (by simpa using h4), h2.block k (by omega) h5]
      exact hB.block k hk
    · rcases h1.2 with ⟨e, _⟩ | ⟨g, cap, cur, e, _⟩
      · exact ⟨_, _, _, e⟩
      · exact ⟨_, _, _, e⟩
  have hpo : (((posLw ltD (id, at_) l + 1 : Nat) : Int)) = (posLw ltD (id, at_) l : Int) + 1 := by omega
  have hpn : (posLw ltD (id, at_) l : Int) ≤ 100000 := by have := HN.out; omega
  obtain ⟨P, hP⟩ : ∃ P, P = posLw ltD (id, at_) l := ⟨_, rfl⟩
  rw [← hP] at KI HF hpo hpn ⊢
  rw [hpo] at KI
  clear hp hpW hoW ho hob hne hB hs hl hS hw1 hat hil hid hP hpo
  go_wp2_with (first | (go_at_call 34; (with_reducible refine KI.out.mono ?_); rintro e w3 ⟨v', rfl, g1, g2, g3⟩; have F3 := HF.out v' w3 g1 g2 g3; clear g1 g2 g3; obtain ⟨f1, f2, f3, f4, f5, A', n', c', rfl⟩ := F3; have HF3 := hide (And.intro f3 (And.intro f4 f5)); clear f3 f4 f5) | fail)
  all_goals
    (try simp only [Exit.inBlock, Exit.then]); refine bodyPost_end (results_none rfl _ _ _) rfl ?_
    exact ⟨_, rfl, HF3.out⟩
end Go.Proofs.Ytjdedlmphghpnaa
