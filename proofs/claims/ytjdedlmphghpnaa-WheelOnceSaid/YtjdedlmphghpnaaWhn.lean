/-
  What is due late up to a time, taken: late.cut.
-/
import Derived.Test.YtjdedlmphghpnaaWhk
import Derived.Test.YtjdedlmphghpnaaWhl
namespace Go.Proofs.Ytjdedlmphghpnaa
open Go.RowKit
set_option maxRecDepth 100000
set_option linter.unusedVariables false
set_option linter.unusedSimpArgs false
attribute [local go_sem ↓] exec_span exec_put exec_build heap_alloc_new heap_old
attribute [local go_sem] spanQ_ptr spanC_some heap_of_drew heap_of_drewN putAt_ptr putOk_ptr oldOk_some World.setRow_alloc_new rs_Due

/-- how many of the first are due up to a time. -/
def cutN (to : Int) : List (Int × Int) → Nat
  | [] => 0
  | q :: t => if q.2 ≤ to then cutN to t + 1 else 0
theorem cutN_le (to : Int) : ∀ (l : List (Int × Int)), cutN to l ≤ l.length
  | [] => Nat.le_refl _
  | q :: t => by unfold cutN; split <;> simp [cutN_le to t]
theorem cutN_lt (to : Int) : ∀ (l : List (Int × Int)) (j : Nat) (q : Int × Int), l[j]? = some q → j ≤ cutN to l → (j < cutN to l ↔ q.2 ≤ to)
  | [], j, q, h, _ => by simp at h
  | p :: t, 0, q, h, _ => by
    simp at h; subst h
    unfold cutN; split <;> simp [*]
  | p :: t, j + 1, q, h, hj => by
    unfold cutN at hj ⊢
    split at hj
    · rename_i e
      rw [if_pos e]
      have := cutN_lt to t j q (by simpa using h) (by omega)
      omega
    · omega
theorem cell_due {w : World} {base n c : Nat} {A : Option Addr} {l : List (Int × Int)} (h : w.ownsRow base 43 2 (.slice A n c) n (rowD l)) {j : Nat} {q : Int × Int} (hj : l[j]? = some q) : ∃ g, A = some ⟨g, 0, none⟩ ∧ w.cell? ⟨g, j * 2, none⟩ = some (.int .i64 q.1) ∧ w.cell? ⟨g, j * 2 + 1, none⟩ = some (.int .i64 q.2) := by
  obtain ⟨h1, h2⟩ := rowD_at l j q hj
  rcases h.2 with ⟨e, rfl⟩ | ⟨g, cap, cur, e, hb, hg, hnc, hm, hsz, ht⟩
  · have := h.1; rw [rowD_len] at this
    have := (List.getElem?_eq_some_iff.1 hj).1; omega
  · injection e with e1 e2 e3
    refine ⟨g, e1, ?_, ?_⟩
    · rw [cell_of_row w g _ _ _ (0, 0) hg]
      rw [← ht, List.getElem?_take] at h1
      split at h1
      · simpa using h1
      · cases h1
    · rw [cell_of_row w g _ _ _ (0, 0) hg]
      rw [← ht, List.getElem?_take] at h2
      split at h2
      · simpa using h2
      · cases h2
set_option maxHeartbeats 4000000 in
theorem cutL_any (w : World) (p : Nat) (now : Int) (mv : Value) (S : List Value) (v : Value) (l : List (Int × Int)) (to : Int)
    (hp : w.heap[p]? = some (.cells (whL now mv S v).toArray 65 (0, 0))) (hS : S.length = 64) (ho : w.ownsRow 0 43 2 v l.length (rowD l)) (hl : l.length ≤ 100000) :
    Calls Try.prog 29 #[.pointer (some ⟨p, 66, none⟩), .int .i64 to] w fun e w' => ∃ t v', e = .returned t ∧ w'.ownsRow w.heap.size 43 2 t (cutN to l) (rowD (l.take (cutN to l))) ∧ w'.heap[p]? = some (.cells (whL now mv S v').toArray 65 (0, 0)) ∧
      w'.ownsRow 0 43 2 v' (l.drop (cutN to l)).length (rowD (l.drop (cutN to l))) ∧ TouchW w w' p v.ownBlock v'.ownBlock ∧ v'.ownBlock = v.ownBlock := by
  have hpl : p < w.heap.size := (Array.getElem?_eq_some_iff.1 hp).1
  have hv66 : (whL now mv S v)[66]? = some v := by have := whL_late (now := now) (mv := mv) (S := S) (lv := v); rwa [hS] at this
  have c1 : w.cell? ⟨p, 66, none⟩ = some v := (cell_of_row w p 66 _ _ (0, 0) hp).trans (by rw [List.getElem?_toArray]; exact hv66)
  obtain ⟨A, c, rfl, hnc, hc63, -, -⟩ := RowD.of_own ho
  obtain ⟨n, hn⟩ : ∃ n, n = l.length := ⟨_, rfl⟩
  have HN := hide hn
  rw [← hn] at ho hnc c1 hl
  rw [← hn] at hp
  rw [← hn]
  clear hn hv66
  have KC := hide (fun j (q : Int × Int) (hj : l[j]? = some q) => cell_due ho hj)
  have KL := hide (fun j (q : Int × Int) (hj : l[j]? = some q) => cutN_lt to l j q hj)
  obtain ⟨K, hK⟩ : ∃ K, K = cutN to l := ⟨_, rfl⟩
  have hKn : K ≤ n := by rw [hK, HN.out]; exact cutN_le to l
  have hob : ∀ k, (Value.slice A n c).ownBlock = some k → k < w.heap.size := fun k hk => (ho.lt k hk).2
  have hne : (Value.slice A n c).ownBlock ≠ some p := fun e => by
    rcases ho.2 with ⟨e', h0⟩ | ⟨g, cap, cur, e', hb, hg, -⟩
    · rw [e'] at e; simp [Value.ownBlock] at e
    · rw [e'] at e
      simp only [Value.ownBlock, Option.some.injEq] at e
      subst e
      rw [hp] at hg; injection hg with hg; injection hg with _ hg; exact absurd hg (by decide)
  have K1 := hide (fun c' => cloneD_any w 0 n K c A l ho hKn (by omega) c')
  have K2 : Hid (∀ w2, Below w.heap.size w w2 → w2.cell? ⟨p, 66, none⟩ = some (.slice A n c) ∧ Calls Try.prog 34 #[.slice A n c, .int .i64 0, .int .i64 K] w2 fun e w' => ∃ v', e = .returned v' ∧ w'.ownsRow 0 43 2 v' (n - (K - 0)) ((rowD l).take (0 * 2) ++ (rowD l).drop (K * 2)) ∧ w2.grownBy w' (Value.slice A n c).ownBlock ∧ v'.ownBlock = (Value.slice A n c).ownBlock) := hide fun w2 hb =>
    ⟨(hb.cell (show (⟨p, 66, none⟩ : Addr).block < w.heap.size from hpl)).trans c1, delD_any w2 0 0 K n (.slice A n c) (rowD l) (row_bel ho hb) (rowD_one l) (Nat.zero_le _) hKn⟩
  have HF : Hid (∀ w2 t v' w3, Below w.heap.size w w2 → w2.ownsRow w.heap.size 43 2 t K (rowD (l.take K)) → w3.ownsRow 0 43 2 v' (n - (K - 0)) ((rowD l).take (0 * 2) ++ (rowD l).drop (K * 2)) → w2.grownBy w3 (Value.slice A n c).ownBlock → v'.ownBlock = (Value.slice A n c).ownBlock →
      w3.cell? ⟨p, 66, none⟩ = some (.slice A n c) ∧ w3.frozen? ⟨p, 66, none⟩ = false ∧ ((w3.setCell ⟨p, 66, none⟩ v').ownsRow w.heap.size 43 2 t (cutN to l) (rowD (l.take (cutN to l))) ∧ (w3.setCell ⟨p, 66, none⟩ v').heap[p]? = some (.cells (whL now mv S v').toArray 65 (0, 0)) ∧
      (w3.setCell ⟨p, 66, none⟩ v').ownsRow 0 43 2 v' (l.drop (cutN to l)).length (rowD (l.drop (cutN to l))) ∧ TouchW w (w3.setCell ⟨p, 66, none⟩ v') p (Value.slice A n c).ownBlock v'.ownBlock ∧ v'.ownBlock = (Value.slice A n c).ownBlock) ∧ ∃ A' n' c', v' = .slice A' n' c') := hide fun w2 t v' w3 hb ht h1 h2 h3 => by
    have hp2 := (hb.block p hpl).trans hp
    have hp3 : w3.heap[p]? = _ := (h2.block p (by have := hb.size; omega) (fun e => hne e.symm)).trans hp2
    have hne' : v'.ownBlock ≠ some p := by rw [h3]; exact hne
    have e66 : (whL now mv S (.slice A n c)).set 66 v' = whL now mv S v' := by have := whL_setL (now := now) (mv := mv) (S := S) (lv := Value.slice A n c) (v := v'); rwa [hS] at this
    have hgs : w3.grownBy (w3.setCell ⟨p, 66, none⟩ v') (some p) := by
      refine ⟨by rw [setCell_eq_setRow w3 p _ _ _ _ _ hp3]; rfl, by rw [setCell_eq_setRow w3 p _ _ _ _ _ hp3]; rfl, by rw [setCell_eq_setRow w3 p _ _ _ _ _ hp3]; rfl, by rw [setCell_eq_setRow w3 p _ _ _ _ _ hp3]; simp, fun k hk hk2 => setCell_other' hp3 v' (fun e => hk2 (by rw [e]))⟩
    have hlt : ∀ k, t.ownBlock = some k → w.heap.size ≤ k := fun k hk => (ht.lt k hk).1
    have ht3 : w3.ownsRow w.heap.size 43 2 t K (rowD (l.take K)) := ht.kept h2 (by
      cases e : t.ownBlock with
      | none => exact .inl rfl
      | some k => exact .inr (fun e2 => by have := hlt k e; have := hob k e2.symm; omega))
    refine ⟨(cell_of_row w3 p 66 _ _ (0, 0) hp3).trans (by rw [List.getElem?_toArray]; have := whL_late (now := now) (mv := mv) (S := S) (lv := Value.slice A n c); rwa [hS] at this), by simp [World.frozen?, hp3], ⟨?_, ?_, ?_, ?_, h3⟩, ?_⟩
    · rw [← hK]
      exact ht3.kept hgs (by
        cases e : t.ownBlock with
        | none => exact .inl rfl
        | some k => exact .inr (fun e2 => by have := hlt k e; injection e2 with e2; omega))
    · rw [setCell_block hp3, e66]
    · rw [← hK, List.length_drop, ← HN.out, rowD_drop]
      have := h1.kept hgs (.inr hne')
      rw [Nat.zero_mul, List.take_zero, List.nil_append, Nat.sub_zero] at this
      exact this
    · refine ⟨hgs.os.trans (h2.os.trans hb.os), hgs.tape.trans (h2.tape.trans hb.tape), hgs.output.trans (h2.output.trans hb.output), by have := h2.size; have := hgs.size; have := hb.size; omega, fun k hk h4 h5 => ?_, .inl h3⟩
      rw [hgs.block k (by have := h2.size; have := hb.size; omega) (by simpa using h4), h2.block k (by have := hb.size; omega) h5]
      exact hb.block k hk
    · rcases h1.2 with ⟨e, _⟩ | ⟨g, cap, cur, e, _⟩
      · exact ⟨_, _, _, e⟩
      · exact ⟨_, _, _, e⟩
  have HK := hide hK
  clear hp hS ho hob hne hK hpl
  go_enter Try.func29, Try.ntmps29
  go_wp2
  go_loopw [5] (fun i wr => ∃ k : Nat, k ≤ K ∧ i = .int .i64 (k : Int) ∧ wr = w) (fun i _ => K - (Go.RowKit.intOf i).toNat)
  case atStart => exact ⟨0, Nat.zero_le _, rfl, rfl⟩
  case round =>
    obtain ⟨k, hk, rfl, rfl⟩ := hrel
    by_cases hlt : k < n
    · obtain ⟨q, hq⟩ : ∃ q, l[k]? = some q := ⟨_, List.getElem?_eq_getElem (by have := HN.out; omega)⟩
      obtain ⟨g, rfl, c2, c3⟩ := KC.out k q hq
      have HQ := hide (KL.out k q hq (by rw [← HK.out]; exact hk))
      rw [← HK.out] at HQ
      clear hq
      obtain ⟨q1, q2⟩ := q
      dsimp only at c3 HQ
      by_cases hle : q2 ≤ to
      · have hkK : k < K := HQ.out.2 hle
        go_wp2
        go_roundw
        case rel => exact ⟨k + 1, by omega, by go_num, trivial⟩
        case measure => simp [Go.RowKit.intOf]; omega
      · have hkK : k = K := by have := mt HQ.out.1 hle; omega
        subst hkK
        go_wp2_with (first
          | (go_at_call 33; (with_reducible refine (K1.out _).mono ?_); rintro e w2 ⟨t, rfl, g1, g2⟩; have cc := (K2.out w2 g2).1; have KD := hide (K2.out w2 g2).2; have G1 := hide g1; have G2 := hide g2; clear g1 g2)
          | (go_at_call 34; (with_reducible refine KD.out.mono ?_); rintro e w3 ⟨v', rfl, g1, g2, g3⟩; have F3 := HF.out _ _ v' w3 G2.out G1.out g1 g2 g3; clear g1 g2 g3; obtain ⟨f1, f2, f3, A', n', c', rfl⟩ := F3; have HF3 := hide f3; clear f3) | fail)
        go_ret
        exact ⟨_, _, rfl, HF3.out⟩
    · have hkK : k = K := by omega
      subst hkK
      go_wp2_with (first
        | (go_at_call 33; (with_reducible refine (K1.out _).mono ?_); rintro e w2 ⟨t, rfl, g1, g2⟩; have cc := (K2.out w2 g2).1; have KD := hide (K2.out w2 g2).2; have G1 := hide g1; have G2 := hide g2; clear g1 g2)
        | (go_at_call 34; (with_reducible refine KD.out.mono ?_); rintro e w3 ⟨v', rfl, g1, g2, g3⟩; have F3 := HF.out _ _ v' w3 G2.out G1.out g1 g2 g3; clear g1 g2 g3; obtain ⟨f1, f2, f3, A', n', c', rfl⟩ := F3; have HF3 := hide f3; clear f3) | fail)
      go_ret
      exact ⟨_, _, rfl, HF3.out⟩
end Go.Proofs.Ytjdedlmphghpnaa
