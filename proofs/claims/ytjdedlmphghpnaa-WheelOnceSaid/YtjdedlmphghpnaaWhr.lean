/-
  What is due, as one list by times, and by Ids: its parts that are due soon and late; put in, taken out, cut; when each is due. Mathematics alone.
-/
import Derived.Test.YtjdedlmphghpnaaWhq
import Derived.Test.YtjdedlmphghpnaaGc
namespace Go.Proofs.Ytjdedlmphghpnaa
open Go.RowKit
set_option linter.unusedVariables false

def soonL (D : List (Int × Int)) (lim : Int) (r : Nat) : List Int := (D.filter (fun q => decide (q.2 ≤ lim) && decide (q.2 % 64 = (r : Int)))).map Prod.fst
def lateL (D : List (Int × Int)) (lim : Int) : List (Int × Int) := D.filter (fun q => decide (lim < q.2))
def dropD (id : Int) (D : List (Int × Int)) : List (Int × Int) := D.filter (fun q => decide (q.1 ≠ id))
def findD (id : Int) (D : List (Int × Int)) : Option (Int × Int) := D.find? (fun q => decide (q.1 = id))
def atD (id : Int) (D : List (Int × Int)) : Int := ((findD id D).map (·.2)).getD 0
structure OkD (now : Int) (D : List (Int × Int)) : Prop where
  rises : D.Pairwise ltD
  ids : (D.map Prod.fst).Nodup
  low : ∀ q ∈ D, now < q.2 ∧ q.2 ≤ 1099511627776
  len : D.length ≤ 4096
  clock : 0 ≤ now ∧ now ≤ 1099511627776
theorem nodup_eq : ∀ {D : List (Int × Int)}, (D.map Prod.fst).Nodup → ∀ {a b : Int × Int}, a ∈ D → b ∈ D → a.1 = b.1 → a = b
  | [], _, a, b, ha, _, _ => by simp at ha
  | q :: t, h, a, b, ha, hb, e => by
    simp only [List.map_cons, List.nodup_cons] at h
    rcases List.mem_cons.1 ha with ha | ha
    · rcases List.mem_cons.1 hb with hb | hb
      · rw [ha, hb]
      · exact absurd (List.mem_map.2 ⟨b, hb, by rw [← e, ha]⟩) h.1
    · rcases List.mem_cons.1 hb with hb | hb
      · exact absurd (List.mem_map.2 ⟨a, ha, by rw [e, hb]⟩) h.1
      · exact nodup_eq h.2 ha hb e
theorem findD_some {id : Int} {D : List (Int × Int)} {q : Int × Int} (h : findD id D = some q) : q ∈ D ∧ q.1 = id := by
  unfold findD at h
  exact ⟨List.mem_of_find?_eq_some h, by simpa using List.find?_some h⟩
theorem findD_none {id : Int} {D : List (Int × Int)} (h : findD id D = none) : ∀ q ∈ D, q.1 ≠ id := by
  unfold findD at h
  rw [List.find?_eq_none] at h
  intro q hq e
  exact h q hq (by simpa using e)
theorem findD_mem {D : List (Int × Int)} (h : (D.map Prod.fst).Nodup) {q : Int × Int} (hq : q ∈ D) : findD q.1 D = some q := by
  cases e : findD q.1 D with
  | none => exact absurd rfl (findD_none e q hq)
  | some r =>
    obtain ⟨h1, h2⟩ := findD_some e
    rw [nodup_eq h h1 hq h2]
theorem mem_dropD {id : Int} {D : List (Int × Int)} {q : Int × Int} : q ∈ dropD id D ↔ q ∈ D ∧ q.1 ≠ id := by
  unfold dropD; rw [List.mem_filter]; simp
theorem dropD_none {id : Int} {D : List (Int × Int)} (h : findD id D = none) : dropD id D = D := by
  unfold dropD
  rw [List.filter_eq_self]
  intro q hq
  simpa using findD_none h q hq
theorem dropD_ok {now id : Int} {D : List (Int × Int)} (h : OkD now D) : OkD now (dropD id D) :=
  ⟨h.rises.filter _, (List.Sublist.map _ List.filter_sublist).nodup h.ids, fun q hq => h.low q (mem_dropD.1 hq).1, Nat.le_trans (List.length_filter_le _ _) h.len, h.clock⟩
theorem dropD_len : ∀ {D : List (Int × Int)} {q : Int × Int}, (D.map Prod.fst).Nodup → q ∈ D → (dropD q.1 D).length + 1 = D.length
  | [], q, _, h => by simp at h
  | p :: t, q, h, hq => by
    simp only [List.map_cons, List.nodup_cons] at h
    by_cases e : p.1 = q.1
    · have : dropD q.1 (p :: t) = t := by
        unfold dropD
        rw [List.filter_cons_of_neg (by simpa using e), List.filter_eq_self]
        intro r hr
        have : r.1 ≠ q.1 := fun e2 => h.1 (List.mem_map.2 ⟨r, hr, by rw [e2, e]⟩)
        simpa using this
      rw [this]; rfl
    · have hq' : q ∈ t := by
        rcases List.mem_cons.1 hq with h' | h'
        · exact absurd (by rw [h']) e
        · exact h'
      have ih := dropD_len h.2 hq'
      unfold dropD at ih ⊢
      rw [List.filter_cons_of_pos (by simpa using e), List.length_cons, List.length_cons, ih]
/-- what is due soon or late, put in. -/
theorem soon_insD {now lim id at_ : Int} {D : List (Int × Int)} (hs : D.Pairwise ltD) (hlow : ∀ q ∈ D, now < q.2) (hl : lim ≤ now + 64) (hn : (id, at_) ∉ D) (ha : now < at_) (r : Nat) :
    soonL (insL ltD (id, at_) D) lim r = if at_ ≤ lim ∧ at_ % 64 = (r : Int) then insL ltZ id (soonL D lim r) else soonL D lim r := by
  unfold soonL
  rw [filter_insL ordDu _ _ hs hn]
  by_cases h : at_ ≤ lim ∧ at_ % 64 = (r : Int)
  · rw [if_pos (by simpa using h), if_pos h]
    refine map_insL Prod.fst (id, at_) _ (fun y hy => ?_)
    rw [List.mem_filter] at hy
    have h1 := hlow y hy.1
    have h2 := hy.2
    simp only [Bool.and_eq_true, decide_eq_true_eq] at h2
    have e : y.2 = at_ := by omega
    unfold ltD ltZ
    constructor
    · intro h; simp only at h; omega
    · intro h; exact .inr ⟨e, h⟩
  · rw [if_neg (by simpa using h), if_neg h]
theorem late_insD {lim id at_ : Int} {D : List (Int × Int)} (hs : D.Pairwise ltD) (hn : (id, at_) ∉ D) : lateL (insL ltD (id, at_) D) lim = if lim < at_ then insL ltD (id, at_) (lateL D lim) else lateL D lim := by
  unfold lateL
  rw [filter_insL ordDu _ _ hs hn]
  by_cases h : lim < at_ <;> simp [h]
theorem soon_drop {lim id at_ : Int} {D : List (Int × Int)} (hd : (D.map Prod.fst).Nodup) (hm : (id, at_) ∈ D) (r : Nat) :
    soonL (dropD id D) lim r = if at_ ≤ lim ∧ at_ % 64 = (r : Int) then (soonL D lim r).filter (fun y => decide (y ≠ id)) else soonL D lim r := by
  have e1 : soonL (dropD id D) lim r = (soonL D lim r).filter (fun y => decide (y ≠ id)) := by
    unfold soonL dropD
    rw [List.filter_map, List.filter_filter, List.filter_filter]
    congr 2
    funext q
    simp [Bool.and_comm]
  by_cases h : at_ ≤ lim ∧ at_ % 64 = (r : Int)
  · rw [if_pos h, e1]
  · rw [if_neg h, e1, List.filter_eq_self]
    intro y hy
    unfold soonL at hy
    obtain ⟨q, hq, rfl⟩ := List.mem_map.1 hy
    rw [List.mem_filter] at hq
    have h2 := hq.2
    simp only [Bool.and_eq_true, decide_eq_true_eq] at h2
    have : q.1 ≠ id := fun e => by
      have := nodup_eq hd hq.1 hm e
      rw [this] at h2
      exact h h2
    simpa using this
theorem late_drop {lim id at_ : Int} {D : List (Int × Int)} (hd : (D.map Prod.fst).Nodup) (hm : (id, at_) ∈ D) :
    lateL (dropD id D) lim = if lim < at_ then (lateL D lim).filter (fun y => decide (y ≠ (id, at_))) else lateL D lim := by
  have e1 : lateL (dropD id D) lim = (lateL D lim).filter (fun y => decide (y ≠ (id, at_))) := by
    unfold lateL dropD
    rw [List.filter_filter, List.filter_filter]
    refine List.filter_congr fun q hq => ?_
    have : (decide (q.1 ≠ id)) = decide (q ≠ (id, at_)) := by
      by_cases e : q.1 = id
      · have := nodup_eq hd hq hm e
        subst this; simp
      · have : q ≠ (id, at_) := fun h => e (by rw [h])
        rw [decide_eq_true e, decide_eq_true this]
    rw [this, Bool.and_comm]
  by_cases h : lim < at_
  · rw [if_pos h, e1]
  · rw [if_neg h, e1, List.filter_eq_self]
    intro q hq
    unfold lateL at hq
    rw [List.mem_filter] at hq
    have h2 := hq.2
    simp only [decide_eq_true_eq] at h2
    have : q ≠ (id, at_) := fun e => by rw [e] at h2; exact h h2
    simpa using this
/-- something set. -/
def setD (id at_ : Int) (D : List (Int × Int)) : List (Int × Int) := insL ltD (id, at_) (dropD id D)
theorem setD_notin {id at_ : Int} {D : List (Int × Int)} : (id, at_) ∉ dropD id D := fun h => (mem_dropD.1 h).2 rfl
theorem setD_ok {now id at_ : Int} {D : List (Int × Int)} (h : OkD now D) (ha : now < at_ ∧ at_ ≤ 1099511627776) (hl : (dropD id D).length < 4096) : OkD now (setD id at_ D) := by
  have hd := dropD_ok (id := id) h
  refine ⟨insL_rises ordDu hd.rises setD_notin, ?_, fun q hq => ?_, by unfold setD; rw [insL_len]; omega, h.clock⟩
  · have key : ∀ {l : List (Int × Int)}, (l.map Prod.fst).Nodup → (∀ q ∈ l, q.1 ≠ id) → ((insL ltD (id, at_) l).map Prod.fst).Nodup := by
      intro l
      induction l with
      | nil => intro _ _; simp [insL]
      | cons y t ih =>
        intro h1 h2
        simp only [List.map_cons, List.nodup_cons] at h1
        rw [insL_cons]
        split
        · rw [List.map_cons, List.nodup_cons]
          refine ⟨fun hm => ?_, ih h1.2 (fun q hq => h2 q (by simp [hq]))⟩
          obtain ⟨z, hz, e⟩ := List.mem_map.1 hm
          rcases mem_insL.1 hz with e2 | e2
          · exact h2 y (by simp) (by rw [← e, e2])
          · exact h1.1 (List.mem_map.2 ⟨z, e2, e⟩)
        · rw [List.map_cons, List.map_cons, List.nodup_cons, List.nodup_cons]
          refine ⟨fun hm => ?_, h1.1, h1.2⟩
          rcases List.mem_cons.1 hm with e | e
          · exact h2 y (by simp) e.symm
          · obtain ⟨z, hz, e2⟩ := List.mem_map.1 e
            exact h2 z (by simp [hz]) e2
    exact key hd.ids (fun q hq => (mem_dropD.1 hq).2)
  · rcases mem_insL.1 hq with e | e
    · rw [e]; exact ha
    · exact hd.low q e
/-! when each is due -/
structure TimesOk (T : List (Int × Value)) (D : List (Int × Int)) : Prop where
  keys : (T.map Prod.fst).Nodup
  look : ∀ id, lookK T id = (findD id D).map (fun q => Value.int .i64 q.2)
  len : T.length = D.length
theorem lookK_nil (id : Int) : lookK [] id = none := rfl
theorem TimesOk.nil : TimesOk [] [] := ⟨by simp, fun _ => rfl, rfl⟩
theorem lookK_put (k : Int) (v : Value) (id : Int) : ∀ (T : List (Int × Value)), lookK (putK k v T) id = if id = k then some v else lookK T id
  | [] => by
    unfold putK
    rw [lookK_cons]
  | p :: t => by
    unfold putK
    by_cases e : k = p.1
    · rw [if_pos e, lookK_cons, lookK_cons, ← e]
      by_cases e2 : id = k <;> simp [e2]
    · rw [if_neg e, lookK_cons, lookK_put k v id t, lookK_cons]
      by_cases e2 : id = p.1
      · rw [if_pos e2, if_pos e2, if_neg (by omega)]
      · rw [if_neg e2, if_neg e2]
theorem lookK_none {id : Int} : ∀ {T : List (Int × Value)}, lookK T id = none → id ∉ T.map Prod.fst
  | [], _ => by simp
  | p :: t, h => by
    rw [lookK_cons] at h
    split at h
    · cases h
    · rename_i e
      rw [List.map_cons, List.mem_cons, not_or]
      exact ⟨e, lookK_none h⟩
theorem lookK_notin {id : Int} : ∀ {T : List (Int × Value)}, id ∉ T.map Prod.fst → lookK T id = none
  | [], _ => rfl
  | p :: t, h => by
    rw [List.map_cons, List.mem_cons, not_or] at h
    rw [lookK_cons, if_neg h.1]
    exact lookK_notin h.2
theorem putK_keys {k : Int} {v : Value} : ∀ {T : List (Int × Value)}, (T.map Prod.fst).Nodup → ((putK k v T).map Prod.fst).Nodup ∧ (∀ x, x ∈ (putK k v T).map Prod.fst ↔ x = k ∨ x ∈ T.map Prod.fst) ∧ (k ∉ T.map Prod.fst → (putK k v T).length = T.length + 1)
  | [], _ => by simp [putK]
  | p :: t, h => by
    simp only [List.map_cons, List.nodup_cons] at h
    obtain ⟨h1, h2, h3⟩ := putK_keys (k := k) (v := v) h.2
    unfold putK
    by_cases e : k = p.1
    · rw [if_pos e]
      subst e
      refine ⟨by simpa using h, fun x => by simp, fun hn => absurd (by simp) hn⟩
    · rw [if_neg e]
      refine ⟨?_, fun x => ?_, fun hn => ?_⟩
      · rw [List.map_cons, List.nodup_cons]
        exact ⟨fun hm => by rcases (h2 _).1 hm with e2 | e2; · exact e e2.symm
                            · exact h.1 e2, h1⟩
      · rw [List.map_cons, List.map_cons, List.mem_cons, List.mem_cons, h2]
        constructor
        · rintro (e2 | e2 | e2)
          · exact .inr (.inl e2)
          · exact .inl e2
          · exact .inr (.inr e2)
        · rintro (e2 | e2 | e2)
          · exact .inr (.inl e2)
          · exact .inl e2
          · exact .inr (.inr e2)
      · rw [List.map_cons, List.mem_cons, not_or] at hn
        rw [List.length_cons, h3 hn.2, List.length_cons]
theorem dropK_keys {k : Int} : ∀ {T : List (Int × Value)}, (T.map Prod.fst).Nodup → ((dropK k T).map Prod.fst).Nodup ∧ (∀ x, x ∈ (dropK k T).map Prod.fst → x ∈ T.map Prod.fst) ∧ (∀ id, lookK (dropK k T) id = if id = k then none else lookK T id) ∧ (k ∈ T.map Prod.fst → (dropK k T).length + 1 = T.length)
  | [], _ => by simp [dropK, lookK_nil]
  | p :: t, h => by
    simp only [List.map_cons, List.nodup_cons] at h
    obtain ⟨h1, h2, h3, h4⟩ := dropK_keys (k := k) h.2
    unfold dropK
    by_cases e : k = p.1
    · rw [if_pos e]
      subst e
      refine ⟨h.2, fun x hx => by rw [List.map_cons]; exact List.mem_cons_of_mem _ hx, fun id => ?_, fun _ => rfl⟩
      rw [lookK_cons]
      by_cases e2 : id = p.1
      · rw [if_pos e2, e2]; exact lookK_notin h.1
      · rw [if_neg e2, if_neg e2]
    · rw [if_neg e]
      refine ⟨?_, fun x hx => ?_, fun id => ?_, fun hm => ?_⟩
      · rw [List.map_cons, List.nodup_cons]
        exact ⟨fun hm => h.1 (h2 _ hm), h1⟩
      · rw [List.map_cons, List.mem_cons] at hx ⊢
        exact hx.imp_right (h2 _)
      · rw [lookK_cons, h3, lookK_cons]
        by_cases e2 : id = p.1
        · rw [if_pos e2, if_pos e2, if_neg (by omega)]
        · rw [if_neg e2, if_neg e2]
      · rw [List.map_cons, List.mem_cons] at hm
        rcases hm with e2 | e2
        · exact absurd e2 e
        · rw [List.length_cons, h4 e2, List.length_cons]
theorem find_dropD (id x : Int) : ∀ (D : List (Int × Int)), findD x (dropD id D) = if x = id then none else findD x D
  | [] => by unfold dropD findD; simp
  | q :: t => by
    have ih := find_dropD id x t
    unfold dropD findD at *
    by_cases e : q.1 = id
    · rw [List.filter_cons_of_neg (by simpa using e), ih]
      by_cases e2 : x = id
      · rw [if_pos e2, if_pos e2]
      · rw [if_neg e2, if_neg e2, List.find?_cons_of_neg (by simp; omega)]
    · rw [List.filter_cons_of_pos (by simpa using e)]
      by_cases e3 : q.1 = x
      · rw [List.find?_cons_of_pos (by simpa using e3), List.find?_cons_of_pos (by simpa using e3), if_neg (by omega)]
      · rw [List.find?_cons_of_neg (by simpa using e3), List.find?_cons_of_neg (by simpa using e3), ih]
theorem find_insD (id at_ x : Int) : ∀ (D : List (Int × Int)), (∀ q ∈ D, q.1 ≠ id) → findD x (insL ltD (id, at_) D) = if x = id then some (id, at_) else findD x D
  | [], _ => by
    unfold insL findD
    by_cases e : x = id
    · rw [if_pos e, List.find?_cons_of_pos (by simpa using e.symm)]
    · rw [if_neg e, List.find?_cons_of_neg (by simp; omega)]
  | q :: t, h => by
    have ih := find_insD id at_ x t (fun r hr => h r (by simp [hr]))
    have hq := h q (by simp)
    rw [insL_cons]
    unfold findD at *
    split
    · by_cases e : q.1 = x
      · rw [List.find?_cons_of_pos (by simpa using e), List.find?_cons_of_pos (by simpa using e), if_neg (by omega)]
      · rw [List.find?_cons_of_neg (by simpa using e), List.find?_cons_of_neg (by simpa using e), ih]
    · by_cases e : x = id
      · rw [if_pos e, List.find?_cons_of_pos (by simpa using e.symm)]
      · rw [if_neg e, List.find?_cons_of_neg (by simp; omega)]
theorem TimesOk.drop {T : List (Int × Value)} {D : List (Int × Int)} (h : TimesOk T D) (hd : (D.map Prod.fst).Nodup) {q : Int × Int} (hq : q ∈ D) : TimesOk (dropK q.1 T) (dropD q.1 D) := by
  obtain ⟨h1, h2, h3, h4⟩ := dropK_keys (k := q.1) h.keys
  refine ⟨h1, fun id => ?_, ?_⟩
  · rw [h3, find_dropD, h.look]
    by_cases e : id = q.1 <;> simp [e]
  · have hm : q.1 ∈ T.map Prod.fst := Decidable.byContradiction fun hn => by
      have := lookK_notin hn
      rw [h.look, findD_mem hd hq] at this
      simp at this
    have := h4 hm
    have := dropD_len hd hq
    have := h.len
    omega
theorem TimesOk.set {T : List (Int × Value)} {D : List (Int × Int)} {id at_ : Int} (h : TimesOk T D) (hn : findD id D = none) : TimesOk (putK id (.int .i64 at_) T) (insL ltD (id, at_) D) := by
  obtain ⟨h1, h2, h3⟩ := putK_keys (k := id) (v := .int .i64 at_) h.keys
  refine ⟨h1, fun x => ?_, ?_⟩
  · rw [lookK_put, find_insD id at_ x D (findD_none hn), h.look]
    by_cases e : x = id <;> simp [e]
  · rw [h3 (lookK_none (by rw [h.look, hn]; rfl)), insL_len, h.len]
end Go.Proofs.Ytjdedlmphghpnaa
