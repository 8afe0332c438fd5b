/-
  The mathematics of GossipTold: where there is room for all, each one is told, round after round.
-/
import Derived.Test.YtajpibopknpmmaaGp
namespace Go.Proofs.Ytajpibopknpmmaa
set_option linter.unusedVariables false
set_option linter.unusedSimpArgs false

def sizesQ (L : List (Int × Nw)) (ks : List Int) : Int := (ks.map fun k => ((dataQ L k).length : Int)).sum
theorem sizesQ_cons (L : List (Int × Nw)) (k : Int) (t : List Int) : sizesQ L (k :: t) = ((dataQ L k).length : Int) + sizesQ L t := by simp [sizesQ]
theorem sizesQ_nonneg (L : List (Int × Nw)) : ∀ ks : List Int, 0 ≤ sizesQ L ks
  | [] => by simp [sizesQ]
  | k :: t => by rw [sizesQ_cons]; have := sizesQ_nonneg L t; omega
theorem sizesQ_told {L : List (Int × Nw)} (h : OkQ L) (k : Int) : ∀ t : List Int, k ∉ t → sizesQ (toldQ k L) t = sizesQ L t
  | [], _ => rfl
  | j :: t, hk => by
    rw [sizesQ_cons, sizesQ_cons, sizesQ_told h k t (fun hh => hk (List.mem_cons_of_mem _ hh)), (leftQ_other h (show j ≠ k from fun e => hk (by rw [e]; exact List.mem_cons_self))).2.1]
/-- told once less. -/
def lessN (x : Nw) : Option Nw := if x.2 = 1 then none else some (x.1, x.2 - 1)
theorem pick_all : ∀ (ks : List Int) (room : Int) {L : List (Int × Nw)}, OkQ L → ks.Nodup → (∀ k ∈ ks, hasQ L k = true) → sizesQ L ks ≤ room →
    (pickQ ks room L).1 = ks.map (fun k => (k, dataQ L k)) ∧ ∀ j, lookQ j (pickQ ks room L).2 = if j ∈ ks then (lookQ j L).bind lessN else lookQ j L
  | [], room, L, _, _, _, _ => ⟨rfl, fun j => by simp [pickQ]⟩
  | k :: t, room, L, hok, hnd, hhas, hsz => by
    rw [sizesQ_cons] at hsz
    have hn := sizesQ_nonneg L t
    rw [List.nodup_cons] at hnd
    rw [pickQ_take (by omega)]
    have hh : ∀ j ∈ t, hasQ (toldQ k L) j = true := fun j hj => by
      rw [(leftQ_other hok (show j ≠ k from fun e => hnd.1 (by rw [← e]; exact hj))).2.2]
      exact hhas j (List.mem_cons_of_mem _ hj)
    obtain ⟨h1, h2⟩ := pick_all t (room - ((dataQ L k).length : Int)) (hok.told k) hnd.2 hh (by rw [sizesQ_told hok k t hnd.1]; omega)
    refine ⟨?_, fun j => ?_⟩
    · dsimp only
      rw [h1, List.map_cons]
      congr 1
      refine List.map_congr_left fun j hj => ?_
      rw [(leftQ_other hok (show j ≠ k from fun e => hnd.1 (by rw [← e]; exact hj))).2.1]
    · dsimp only
      rw [h2, look_toldQ hok]
      by_cases e : j = k
      · rw [if_neg (by rw [e]; exact hnd.1), if_pos e, if_pos (by rw [e]; exact List.mem_cons_self), e]; rfl
      · by_cases e2 : j ∈ t
        · rw [if_pos e2, if_neg e, if_pos (List.mem_cons_of_mem _ e2)]
        · rw [if_neg e2, if_neg e, if_neg (by rw [List.mem_cons]; rintro (h | h); exact e h; exact e2 h)]
/-- keys 0, 1 .. with sizes and how many times more. -/
def StT (L : List (Int × Nw)) (ns lf : List Nat) : Prop :=
  OkQ L ∧ ns.length = lf.length ∧ ∀ j : Int, lookQ j L = if 0 ≤ j ∧ 0 < lf.getD j.toNat 0 then some (List.replicate (ns.getD j.toNat 0) 0, lf.getD j.toNat 0) else none
theorem StT.nil : StT [] [] [] := ⟨OkQ.nil, rfl, fun j => by simp [lookQ]⟩
theorem StT.has {L : List (Int × Nw)} {ns lf : List Nat} (h : StT L ns lf) (j : Int) : hasQ L j = decide (0 ≤ j ∧ 0 < lf.getD j.toNat 0) := by
  unfold hasQ
  rw [h.2.2 j]
  by_cases e : 0 ≤ j ∧ 0 < lf.getD j.toNat 0
  · rw [if_pos e, decide_eq_true e]; rfl
  · rw [if_neg e, decide_eq_false e]; rfl
theorem StT.left {L : List (Int × Nw)} {ns lf : List Nat} (h : StT L ns lf) (j : Nat) : leftQ L (j : Int) = lf.getD j 0 := by
  unfold leftQ
  rw [h.2.2 (j : Int)]
  rw [Int.toNat_natCast]
  by_cases e : 0 < lf.getD j 0
  · rw [if_pos ⟨by omega, e⟩]; rfl
  · rw [if_neg (fun hh => e hh.2)]
    show 0 = _
    omega
/-- the keys that wait. -/
def waitK (lf : List Nat) : List Int := ((List.range lf.length).filter fun i => decide (0 < lf.getD i 0)).map fun i : Nat => (i : Int)
theorem StT.keys {L : List (Int × Nw)} {ns lf : List Nat} (h : StT L ns lf) : (L.map (·.1)).Perm (waitK lf) := by
  refine (List.perm_ext_iff_of_nodup h.1.nodup ?_).2 fun k => ?_
  · unfold waitK
    have : ((List.range lf.length).filter fun i => decide (0 < lf.getD i 0)).Nodup := List.nodup_range.filter _
    unfold List.Nodup at this ⊢
    rw [List.pairwise_map]
    exact this.imp fun hne e => hne (by omega)
  · rw [← hasQ_iff, h.has]
    unfold waitK
    simp only [decide_eq_true_eq, List.mem_map, List.mem_filter, List.mem_range]
    constructor
    · rintro ⟨h0, h1⟩
      refine ⟨k.toNat, ⟨?_, by simpa using h1⟩, by omega⟩
      rcases Nat.lt_or_ge k.toNat lf.length with h2 | h2
      · exact h2
      · exfalso
        have : lf.getD k.toNat 0 = 0 := by rw [List.getD_eq_getElem?_getD, List.getElem?_eq_none h2]; rfl
        omega
    · rintro ⟨i, ⟨h0, h1⟩, rfl⟩
      exact ⟨by omega, by simpa using h1⟩
theorem sum_perm {α : Type} (f : α → Int) {l l' : List α} (h : l.Perm l') : (l.map f).sum = (l'.map f).sum := by
  induction h with
  | nil => rfl
  | cons x _ ih => simp [ih]
  | swap x y l => simp; omega
  | trans _ _ ih1 ih2 => exact ih1.trans ih2
theorem sum_filter (f : Nat → Int) (p : Nat → Bool) : ∀ l : List Nat, (∀ i ∈ l, 0 ≤ f i) → ((l.filter p).map f).sum ≤ (l.map f).sum
  | [], _ => by simp
  | i :: t, h => by
    have ih := sum_filter f p t (fun j hj => h j (List.mem_cons_of_mem _ hj))
    have h0 := h i List.mem_cons_self
    rw [List.filter_cons]
    split
    · simp only [List.map_cons, List.sum_cons]; omega
    · simp only [List.map_cons, List.sum_cons]; omega
theorem sum_range_getD (ns : List Nat) : ((List.range ns.length).map fun i => ((ns.getD i 0 : Nat) : Int)).sum = ((ns.sum : Nat) : Int) := by
  have : (List.range ns.length).map (fun i => ((ns.getD i 0 : Nat) : Int)) = ns.map (fun n : Nat => (n : Int)) := by
    apply List.ext_getElem
    · simp
    · intro i h1 h2
      simp at h1 h2
      simp [List.getD_eq_getElem?_getD, h2]
  rw [this]
  clear this
  induction ns with
  | nil => rfl
  | cons a t ih => simp only [List.map_cons, List.sum_cons, ih]; omega
/-- one round: all that wait are told. -/
theorem StT.round {L : List (Int × Nw)} {ns lf : List Nat} (h : StT L ns lf) {room : Int} (hr : ((ns.sum : Nat) : Int) ≤ room) :
    (tellQ L room).1 = (ordQ L (L.map (·.1))).map (fun k => (k, dataQ L k)) ∧ StT (tellQ L room).2 ns (lf.map (· - 1)) := by
  have hp := ordQ_perm L (L.map (·.1))
  have hnd : (ordQ L (L.map (·.1))).Nodup := hp.nodup_iff.2 h.1.nodup
  have hmem : ∀ k, k ∈ ordQ L (L.map (·.1)) ↔ hasQ L k = true := fun k => by rw [hp.mem_iff, hasQ_iff]
  have hsz : sizesQ L (ordQ L (L.map (·.1))) ≤ room := by
    have h1 : sizesQ L (ordQ L (L.map (·.1))) = sizesQ L (waitK lf) := sum_perm _ (hp.trans h.keys)
    have h2 : sizesQ L (waitK lf) ≤ ((ns.sum : Nat) : Int) := by
      unfold sizesQ waitK
      rw [List.map_map]
      have h3 : ((List.range lf.length).filter fun i => decide (0 < lf.getD i 0)).map ((fun k => ((dataQ L k).length : Int)) ∘ fun i : Nat => (i : Int)) = ((List.range lf.length).filter fun i => decide (0 < lf.getD i 0)).map fun i => ((ns.getD i 0 : Nat) : Int) := by
        refine List.map_congr_left fun i hi => ?_
        have hi2 : 0 < lf.getD i 0 := by simpa using (List.mem_filter.1 hi).2
        show ((dataQ L (i : Int)).length : Int) = _
        unfold dataQ
        rw [h.2.2 (i : Int), Int.toNat_natCast, if_pos ⟨by omega, hi2⟩]
        simp
      rw [h3]
      refine Int.le_trans (sum_filter _ _ _ (fun i _ => by omega)) ?_
      rw [← h.2.1, sum_range_getD]
      exact Int.le_refl _
    omega
  obtain ⟨h1, h2⟩ := pick_all (ordQ L (L.map (·.1))) room h.1 hnd (fun k hk => (hmem k).1 hk) hsz
  refine ⟨h1, h.1.pick _ _, by rw [List.length_map]; exact h.2.1, fun j => ?_⟩
  have hg : (lf.map (· - 1)).getD j.toNat 0 = lf.getD j.toNat 0 - 1 := by
    rw [List.getD_eq_getElem?_getD, List.getD_eq_getElem?_getD, List.getElem?_map]
    cases lf[j.toNat]? <;> simp
  unfold tellQ
  rw [h2 j, hg]
  by_cases e : hasQ L j = true
  · rw [if_pos ((hmem j).2 e)]
    have e2 := e
    rw [h.has, decide_eq_true_eq] at e2
    rw [h.2.2 j, if_pos e2]
    simp only [Option.bind_some, lessN]
    by_cases e3 : lf.getD j.toNat 0 = 1
    · rw [if_pos e3, if_neg (by omega)]
    · rw [if_neg e3, if_pos ⟨e2.1, by omega⟩]
  · rw [if_neg (fun hh => e ((hmem j).1 hh))]
    have e2 : ¬ (0 ≤ j ∧ 0 < lf.getD j.toNat 0) := by
      rw [h.has, decide_eq_true_eq] at e
      exact e
    rw [h.2.2 j, if_neg e2, if_neg (fun hh => e2 ⟨hh.1, by omega⟩)]
/-- one more news, under the next key. -/
theorem StT.put {L : List (Int × Nw)} {ns lf : List Nat} (h : StT L ns lf) {n k : Nat} (hm : lf.length < 4096) (hn : 0 < n ∧ n ≤ 50) (hk : 1 ≤ k ∧ k ≤ 1000) :
    putE 4096 L (lf.length : Int) (List.replicate n 0) (k : Int) = 0 ∧ StT (putL 4096 L (lf.length : Int) (List.replicate n 0) (k : Int)) (ns ++ [n]) (lf ++ [k]) := by
  have hhas : hasQ L (lf.length : Int) = false := by
    rw [h.has, decide_eq_false_iff_not, Int.toNat_natCast, List.getD_eq_getElem?_getD, List.getElem?_eq_none (Nat.le_refl _)]
    exact fun hh => Nat.lt_irrefl 0 hh.2
  have hlen : L.length ≤ lf.length := by
    have := h.keys.length_eq
    rw [List.length_map] at this
    rw [this]
    unfold waitK
    rw [List.length_map]
    exact Nat.le_trans (List.length_filter_le _ _) (by simp)
  have hE : putE 4096 L (lf.length : Int) (List.replicate n 0) (k : Int) = 0 := by
    unfold putE
    rw [if_neg (by rw [List.length_replicate]; omega)]
    unfold fullQ
    rw [decide_eq_false (by omega)]
    simp
  refine ⟨hE, ?_⟩
  unfold putL
  rw [if_pos hE, Int.toNat_natCast]
  refine ⟨h.1.put _ _ ⟨by omega, by rw [List.length_replicate]; omega, by rw [List.length_replicate]; omega, by dsimp only; omega, by dsimp only; omega⟩, by rw [List.length_append, List.length_append, h.2.1]; rfl, fun j => ?_⟩
  rw [look_putQ]
  by_cases e : j = (lf.length : Int)
  · subst e
    rw [if_pos rfl, Int.toNat_natCast]
    have e1 : (lf ++ [k]).getD lf.length 0 = k := by simp [List.getD_eq_getElem?_getD]
    have e2 : (ns ++ [n]).getD lf.length 0 = n := by rw [← h.2.1]; simp [List.getD_eq_getElem?_getD]
    rw [e1, e2, if_pos ⟨by omega, by omega⟩]
  · rw [if_neg e, h.2.2 j]
    by_cases e0 : 0 ≤ j
    · have hne : j.toNat ≠ lf.length := by omega
      have e1 : (lf ++ [k]).getD j.toNat 0 = lf.getD j.toNat 0 := by
        rw [List.getD_eq_getElem?_getD, List.getD_eq_getElem?_getD]
        rcases Nat.lt_or_ge j.toNat lf.length with h1 | h1
        · rw [List.getElem?_append_left h1]
        · have h9 : (lf ++ [k]).length ≤ j.toNat := by rw [List.length_append, List.length_singleton]; omega
          rw [List.getElem?_eq_none h1, List.getElem?_eq_none h9]
      have e2 : (ns ++ [n]).getD j.toNat 0 = ns.getD j.toNat 0 := by
        rw [List.getD_eq_getElem?_getD, List.getD_eq_getElem?_getD]
        rcases Nat.lt_or_ge j.toNat ns.length with h1 | h1
        · rw [List.getElem?_append_left h1]
        · have h9 : (ns ++ [n]).length ≤ j.toNat := by rw [List.length_append, List.length_singleton]; have := h.2.1; omega
          rw [List.getElem?_eq_none h1, List.getElem?_eq_none h9]
      rw [e1, e2]
    · rw [if_neg (fun hh => e0 hh.1), if_neg (fun hh => e0 hh.1)]
end Go.Proofs.Ytajpibopknpmmaa
