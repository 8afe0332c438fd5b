/-
  The mathematics of news that wait: looked up, put, told, in which order, what goes into the room. Nothing here speaks of one function.
-/
import Derived.Test.YtjdedlmphghpnaaBase
namespace Go.Proofs.Ytjdedlmphghpnaa
set_option linter.unusedVariables false
set_option linter.unusedSimpArgs false

/-- what waits, and how many times more it is told. -/
abbrev Nw := List UInt8 × Nat
def lookQ (k : Int) : List (Int × Nw) → Option Nw
  | [] => none
  | p :: t => if k = p.1 then some p.2 else lookQ k t
def putQ (k : Int) (x : Nw) : List (Int × Nw) → List (Int × Nw)
  | [] => [(k, x)]
  | p :: t => if k = p.1 then (k, x) :: t else p :: putQ k x t
def dropQ (k : Int) : List (Int × Nw) → List (Int × Nw)
  | [] => []
  | p :: t => if k = p.1 then t else p :: dropQ k t
def leftQ (L : List (Int × Nw)) (k : Int) : Nat := ((lookQ k L).map (·.2)).getD 0
def dataQ (L : List (Int × Nw)) (k : Int) : List UInt8 := ((lookQ k L).map (·.1)).getD []
def hasQ (L : List (Int × Nw)) (k : Int) : Bool := (lookQ k L).isSome
def toldQ (k : Int) (L : List (Int × Nw)) : List (Int × Nw) :=
  match lookQ k L with
  | some x => if x.2 = 1 then dropQ k L else putQ k (x.1, x.2 - 1) L
  | none => L
/-- which of two keys is told first. -/
def cmpQ (L : List (Int × Nw)) (a b : Int) : Int :=
  if leftQ L b < leftQ L a then -1 else if leftQ L a < leftQ L b then 1 else if a < b then -1 else if b < a then 1 else 0
def ordQ (L : List (Int × Nw)) (ks : List Int) : List Int := ks.mergeSort (fun x y => !decide (cmpQ L y x < 0))
/-- what is told of some keys, within so much room, and what waits then. -/
def pickQ : List Int → Int → List (Int × Nw) → List (Int × List UInt8) × List (Int × Nw)
  | [], _, L => ([], L)
  | k :: t, room, L =>
    if room < ((dataQ L k).length : Int) then pickQ t room L
    else ((k, dataQ L k) :: (pickQ t (room - ((dataQ L k).length : Int)) (toldQ k L)).1, (pickQ t (room - ((dataQ L k).length : Int)) (toldQ k L)).2)

theorem lookQ_mem {k : Int} {x : Nw} : ∀ {L : List (Int × Nw)}, lookQ k L = some x → (k, x) ∈ L
  | [], h => by cases h
  | p :: t, h => by
    unfold lookQ at h
    split at h
    · next e => cases h; rw [e]; exact List.mem_cons_self
    · exact List.mem_cons_of_mem _ (lookQ_mem h)
theorem lookQ_none {k : Int} : ∀ {L : List (Int × Nw)}, lookQ k L = none ↔ k ∉ L.map (·.1)
  | [] => by simp [lookQ]
  | p :: t => by
    unfold lookQ
    split
    · next e => simp [e]
    · next e => rw [lookQ_none]; simp [e]
theorem look_putQ (k j : Int) (x : Nw) : ∀ L : List (Int × Nw), lookQ j (putQ k x L) = if j = k then some x else lookQ j L
  | [] => by
    unfold putQ lookQ
    by_cases e : j = k
    · rw [if_pos e, if_pos e]
    · rw [if_neg e, if_neg e]; rfl
  | p :: t => by
    unfold putQ
    split
    · next e =>
      unfold lookQ
      by_cases e2 : j = k
      · rw [if_pos e2, if_pos e2]
      · rw [if_neg e2, if_neg e2, if_neg (by rw [← e]; exact e2)]
    · next e =>
      unfold lookQ
      by_cases e2 : j = p.1
      · rw [if_pos e2, if_pos e2, if_neg (by rw [e2]; exact fun e3 => e e3.symm)]
      · rw [if_neg e2, if_neg e2, look_putQ k j x t]
theorem keys_putQ (k : Int) (x : Nw) : ∀ L : List (Int × Nw), (putQ k x L).map (·.1) = if k ∈ L.map (·.1) then L.map (·.1) else L.map (·.1) ++ [k]
  | [] => by simp [putQ]
  | p :: t => by
    unfold putQ
    split
    · next e => rw [if_pos (by simp [e])]; simp [e]
    · next e =>
      simp only [List.map_cons, List.mem_cons]
      rw [keys_putQ k x t]
      by_cases h : k ∈ t.map (·.1)
      · rw [if_pos h, if_pos (Or.inr h)]
      · rw [if_neg h, if_neg (fun h1 => h1.elim e h)]; rfl
theorem dropQ_sub (k : Int) : ∀ L : List (Int × Nw), (dropQ k L).Sublist L
  | [] => List.Sublist.refl _
  | p :: t => by
    unfold dropQ
    split
    · exact List.sublist_cons_self _ _
    · exact (dropQ_sub k t).cons_cons _
theorem look_dropQ (k j : Int) : ∀ L : List (Int × Nw), (L.map (·.1)).Nodup → lookQ j (dropQ k L) = if j = k then none else lookQ j L
  | [], _ => by simp [dropQ, lookQ]
  | p :: t, h => by
    simp only [List.map_cons, List.nodup_cons] at h
    unfold dropQ
    split
    · next e =>
      by_cases e2 : j = k
      · rw [if_pos e2]
        exact lookQ_none.2 (by rw [e2, e]; exact h.1)
      · rw [if_neg e2]
        conv => rhs; unfold lookQ
        rw [if_neg (by rw [← e]; exact e2)]
    · next e =>
      unfold lookQ
      by_cases e2 : j = p.1
      · rw [if_pos e2, if_pos e2, if_neg (by rw [e2]; exact fun e3 => e e3.symm)]
      · rw [if_neg e2, if_neg e2, look_dropQ k j t h.2]
/-- what always holds of news that wait. -/
structure OkQ (L : List (Int × Nw)) : Prop where
  nodup : (L.map (·.1)).Nodup
  each : ∀ p ∈ L, (-9223372036854775808 ≤ p.1 ∧ p.1 ≤ 9223372036854775807) ∧ 0 < p.2.1.length ∧ p.2.1.length ≤ 140737488355328 ∧ 1 ≤ p.2.2 ∧ p.2.2 ≤ 1000
theorem OkQ.nil : OkQ [] := ⟨by simp, fun p hp => by cases hp⟩
theorem OkQ.drop {L : List (Int × Nw)} (h : OkQ L) (k : Int) : OkQ (dropQ k L) :=
  ⟨((dropQ_sub k L).map _).nodup h.nodup, fun p hp => h.each p ((dropQ_sub k L).mem hp)⟩
theorem mem_putQ {k : Int} {x : Nw} {p : Int × Nw} : ∀ {L : List (Int × Nw)}, p ∈ putQ k x L → p = (k, x) ∨ p ∈ L
  | [], h => by simp [putQ] at h; exact .inl h
  | q :: t, h => by
    unfold putQ at h
    split at h
    · rcases List.mem_cons.1 h with h | h
      · exact .inl h
      · exact .inr (List.mem_cons_of_mem _ h)
    · rcases List.mem_cons.1 h with h | h
      · exact .inr (by rw [h]; exact List.mem_cons_self)
      · rcases mem_putQ h with h | h
        · exact .inl h
        · exact .inr (List.mem_cons_of_mem _ h)
theorem OkQ.put {L : List (Int × Nw)} (h : OkQ L) (k : Int) (x : Nw) (hx : (-9223372036854775808 ≤ k ∧ k ≤ 9223372036854775807) ∧ 0 < x.1.length ∧ x.1.length ≤ 140737488355328 ∧ 1 ≤ x.2 ∧ x.2 ≤ 1000) : OkQ (putQ k x L) := by
  refine ⟨?_, fun p hp => ?_⟩
  · rw [keys_putQ]
    split
    · exact h.nodup
    · next e =>
      rw [List.nodup_append]
      exact ⟨h.nodup, by simp, fun a ha b hb => by simp at hb; subst hb; rintro rfl; exact e ha⟩
  · rcases mem_putQ hp with rfl | hp
    · exact hx
    · exact h.each p hp
theorem OkQ.told {L : List (Int × Nw)} (h : OkQ L) (k : Int) : OkQ (toldQ k L) := by
  unfold toldQ
  split
  · next x e =>
    have hx := h.each _ (lookQ_mem e)
    dsimp only at hx
    split
    · exact h.drop k
    · exact h.put k _ ⟨hx.1, hx.2.1, hx.2.2.1, by dsimp only; omega, by dsimp only; omega⟩
  · exact h
theorem len_putQ (k : Int) (x : Nw) : ∀ L : List (Int × Nw), (putQ k x L).length = if hasQ L k then L.length else L.length + 1
  | [] => rfl
  | p :: t => by
    unfold putQ hasQ lookQ
    split
    · rfl
    · have := len_putQ k x t
      unfold hasQ at this
      rw [List.length_cons, this]
      split <;> rfl
theorem len_dropQ (k : Int) (L : List (Int × Nw)) : (dropQ k L).length ≤ L.length := (dropQ_sub k L).length_le
theorem len_toldQ (k : Int) (L : List (Int × Nw)) : (toldQ k L).length ≤ L.length := by
  unfold toldQ
  split
  · next x e =>
    split
    · exact len_dropQ k L
    · rw [len_putQ, if_pos (by unfold hasQ; rw [e]; rfl)]; exact Nat.le_refl _
  · exact Nat.le_refl _
theorem hasQ_iff {L : List (Int × Nw)} {k : Int} : hasQ L k = true ↔ k ∈ L.map (·.1) := by
  unfold hasQ
  cases h : lookQ k L with
  | none => simp [lookQ_none.1 h]
  | some x => simp; exact ⟨_, _, lookQ_mem h⟩
theorem look_toldQ {L : List (Int × Nw)} (h : OkQ L) (k j : Int) : lookQ j (toldQ k L) = if j = k then (lookQ k L).bind fun x => if x.2 = 1 then none else some (x.1, x.2 - 1) else lookQ j L := by
  unfold toldQ
  cases e : lookQ k L with
  | none =>
    by_cases e2 : j = k
    · rw [if_pos e2, e2]; exact e
    · rw [if_neg e2]
  | some x =>
    dsimp only
    split
    · next e1 =>
      rw [look_dropQ k j L h.nodup]
      by_cases e2 : j = k
      · rw [if_pos e2, if_pos e2]; simp [e1]
      · rw [if_neg e2, if_neg e2]
    · next e1 =>
      rw [look_putQ]
      by_cases e2 : j = k
      · rw [if_pos e2, if_pos e2]; simp [e1]
      · rw [if_neg e2, if_neg e2]
theorem leftQ_told {L : List (Int × Nw)} (h : OkQ L) {k : Int} (hk : hasQ L k = true) : leftQ (toldQ k L) k = leftQ L k - 1 := by
  unfold leftQ
  rw [look_toldQ h, if_pos rfl]
  unfold hasQ at hk
  cases e : lookQ k L with
  | none => rw [e] at hk; cases hk
  | some x =>
    have hx := (h.each _ (lookQ_mem e)).2.2.2.1
    dsimp only at hx
    by_cases e1 : x.2 = 1
    · simp [e1]
    · simp [e1]
theorem leftQ_other {L : List (Int × Nw)} (h : OkQ L) {k j : Int} (hne : j ≠ k) : leftQ (toldQ k L) j = leftQ L j ∧ dataQ (toldQ k L) j = dataQ L j ∧ hasQ (toldQ k L) j = hasQ L j := by
  unfold leftQ dataQ hasQ
  rw [look_toldQ h, if_neg hne]
  exact ⟨rfl, rfl, rfl⟩
theorem OkQ.pick : ∀ (ks : List Int) (room : Int) {L : List (Int × Nw)}, OkQ L → OkQ (pickQ ks room L).2
  | [], _, _, h => h
  | k :: t, room, L, h => by
    unfold pickQ
    split
    · exact OkQ.pick t room h
    · exact OkQ.pick t _ (h.told k)
theorem len_pickQ : ∀ (ks : List Int) (room : Int) (L : List (Int × Nw)), (pickQ ks room L).2.length ≤ L.length ∧ (pickQ ks room L).1.length ≤ ks.length
  | [], _, _ => ⟨Nat.le_refl _, Nat.le_refl _⟩
  | k :: t, room, L => by
    unfold pickQ
    split
    · have := len_pickQ t room L
      exact ⟨this.1, by rw [List.length_cons]; omega⟩
    · have := len_pickQ t (room - ((dataQ L k).length : Int)) (toldQ k L)
      exact ⟨Nat.le_trans this.1 (len_toldQ k L), by dsimp only; rw [List.length_cons, List.length_cons]; omega⟩
end Go.Proofs.Ytjdedlmphghpnaa
