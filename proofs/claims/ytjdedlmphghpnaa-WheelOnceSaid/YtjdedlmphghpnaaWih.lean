/-
  A wheel and a list of numbers beside it; Advance to where it may not stand.
-/
import Derived.Test.YtjdedlmphghpnaaWif
namespace Go.Proofs.Ytjdedlmphghpnaa
open Go.RowKit
set_option maxRecDepth 100000
set_option linter.unusedVariables false
set_option linter.unusedSimpArgs false

/-- what Advance answers, of a time at which it may not stand. -/
def advE (now to : Int) : Int := if to < now then 21 else 1
theorem advX_any {w : World} {p : Nat} {now to : Int} {D : List (Int × Int)} {F : Nat → Prop} (h : WhW w p now D F) (hto : to < now ∨ 1099511627776 < to) :
    Calls Try.prog 16 #[.pointer (some ⟨p, 0, none⟩), .int .i64 to] w fun e w' => e = .returned (.tuple #[.slice none 0 0, .int .i64 (advE now to)]) ∧ w = w' := by
  obtain ⟨mv, S, lv, T, h1, h2, h3, rfl⟩ := h
  have c0 := h1.c0
  clear h1 h2 h3
  by_cases hlt : to < now
  · have e : advE now to = 21 := if_pos hlt
    rw [e]
    clear e hto
    go_enter Try.func16, Try.ntmps16
    go_wp2
    go_ret2
    exact ⟨rfl, rfl⟩
  · have e : advE now to = 1 := if_neg hlt
    rw [e]
    have hgt : to > 1099511627776 := by omega
    clear e hto
    go_enter Try.func16, Try.ntmps16
    go_wp2
    go_ret2
    exact ⟨rfl, rfl⟩
structure OneF (w0 wr : World) (pv : Nat) (now : Int) (D : List (Int × Int)) (av : Value) (M : List Int) (F : Nat → Prop) : Prop where
  v : WhW wr pv now D F
  kf : KeptF w0.heap.size w0 wr F
  a : OwnR wr w0.heap.size 2 av (M.map izV)
  sep : ∀ g, av.ownBlock = some g → ¬ F g
def OneW (w0 wr : World) (pv : Nat) (now : Int) (D : List (Int × Int)) (av : Value) (M : List Int) : Prop := ∃ F, OneF w0 wr pv now D av M F
section
variable {w0 wr w' : World} {pv : Nat} {now now' : Int} {D D' : List (Int × Int)} {av : Value} {M : List Int} {F F' : Nat → Prop}
theorem OneF.step (h : OneF w0 wr pv now D av M F) (h' : WhW w' pv now' D' F') (hs : StW wr w' F F') : OneF w0 w' pv now' D' av M F' := by
  obtain ⟨r1, r2⟩ := hs.row h.a h.sep
  exact ⟨h', h.kf.step hs, r1, r2⟩
theorem OneW.bel (h : OneW w0 wr pv now D av M) (hb : Below wr.heap.size wr w') : OneW w0 w' pv now D av M := by
  obtain ⟨F, h⟩ := h
  exact ⟨F, h.step (h.v.bel hb) (StW.below hb F)⟩
theorem OneW.below (h : OneW w0 wr pv now D av M) : Below w0.heap.size w0 wr ∧ w0.heap.size ≤ wr.heap.size := by
  obtain ⟨F, h⟩ := h
  exact ⟨h.kf.1, h.kf.2.1⟩
theorem OneW.ok (h : OneW w0 wr pv now D av M) : OkD now D := by
  obtain ⟨F, h⟩ := h
  exact h.v.ok
theorem OneW.shape (h : OneW w0 wr pv now D av M) : ∃ A c, av = .slice A M.length c ∧ M.length ≤ c := by
  obtain ⟨F, h⟩ := h
  obtain ⟨A, c, e, hc⟩ := h.a.shape
  rw [List.length_map] at e hc
  exact ⟨A, c, e, hc⟩
theorem OneW.set (h : OneW w0 wr pv now D av M) (id at_ : Int) :
    Calls Try.prog 12 #[.pointer (some ⟨pv, 0, none⟩), .int .i64 id, .int .i64 at_] wr fun e w' => e = .returned (.int .i64 (setE now D id at_)) ∧ OneW w0 w' pv now (setR now D id at_) av M := by
  obtain ⟨F, h⟩ := h
  refine (setW_any h.v id at_).mono ?_
  rintro e w' ⟨F', rfl, h1, h2⟩
  exact ⟨rfl, F', h.step h1 h2⟩
theorem OneW.len (h : OneW w0 wr pv now D av M) : Calls Try.prog 21 #[.pointer (some ⟨pv, 0, none⟩)] wr fun e w' => e = .returned (.int .i64 (D.length : Int)) ∧ wr = w' := by
  obtain ⟨F, h⟩ := h
  exact lenW_any h.v
theorem OneW.clock (h : OneW w0 wr pv now D av M) : Calls Try.prog 22 #[.pointer (some ⟨pv, 0, none⟩)] wr fun e w' => e = .returned (.int .i64 now) ∧ wr = w' := by
  obtain ⟨F, h⟩ := h
  exact nowW_any h.v
theorem OneW.advX (h : OneW w0 wr pv now D av M) {to : Int} (hto : to < now ∨ 1099511627776 < to) : Calls Try.prog 16 #[.pointer (some ⟨pv, 0, none⟩), .int .i64 to] wr fun e w' => e = .returned (.tuple #[.slice none 0 0, .int .i64 (advE now to)]) ∧ wr = w' := by
  obtain ⟨F, h⟩ := h
  exact advX_any h.v hto
/-- what was taken is a row beside the list. -/
def Beside (wr : World) (t av : Value) (T : List (Int × Int)) : Prop := wr.ownsRow 0 43 2 t T.length (rowD T) ∧ (t.ownBlock = none ∨ t.ownBlock ≠ av.ownBlock)
theorem OneW.adv (h : OneW w0 wr pv now D av M) {to : Int} (hto : now ≤ to ∧ to ≤ 1099511627776) :
    Calls Try.prog 16 #[.pointer (some ⟨pv, 0, none⟩), .int .i64 to] wr fun e w' => ∃ t, e = .returned (.tuple #[t, .int .i64 0]) ∧ OneW w0 w' pv to (D.drop (cutN to D)) av M ∧ Beside w' t av (D.take (cutN to D)) := by
  obtain ⟨F, h⟩ := h
  refine (advW_any h.v hto).mono ?_
  rintro e w' ⟨t, F', rfl, h1, h2, h3, h4⟩
  have hl : (D.take (cutN to D)).length = cutN to D := by rw [List.length_take]; have := cutN_le to D; omega
  refine ⟨t, rfl, ⟨F', h.step h2 h3⟩, ?_, ?_⟩
  · rw [hl]; exact own_base h1
  · cases ht : t.ownBlock with
    | none => exact .inl rfl
    | some g =>
      refine .inr fun e => ?_
      have := (h1.lt g ht).1
      have := (h.a.at g e.symm).2
      omega
theorem Beside.bel {t : Value} {T : List (Int × Int)} (h : Beside wr t av T) (hb : Below wr.heap.size wr w') : Beside w' t av T := ⟨row_bel h.1 hb, h.2⟩
/-- one more at the end of the list. -/
theorem OneW.app (h : OneW w0 wr pv now D av M) (g : Nat) (x : Int) (t : TypeId) (hg : wr.heap[g]? = some (.cells #[.int .i64 x] t (0, 0))) (hn : M.length + 1 ≤ 100000) :
    ∃ v w', (Builtin.append_ #[53, 53] 53 #[av, .slice (some ⟨g, 0, none⟩) 1 1]).run Try.prog wr = .ok v w' ∧ OneW w0 w' pv now D v (M ++ [x]) := by
  obtain ⟨F, h⟩ := h
  obtain ⟨i0, hi0, hz0, hz1, hz2⟩ := info_parts info_i8
  obtain ⟨v, w', h1, h2, h3, h4⟩ := run_app_row wr w0.heap.size 53 2 53 i0 _ 8 Try.underlying53 hi0 hz0 hz1 hz2 rfl av _ h.a (some ⟨g, 0, none⟩) 1 1 [.int .i64 x] rfl
    (fun _ => ⟨g, 0, rfl, fun n u hu => by rw [cell_of_row wr _ (0 + n) _ _ (0, 0) hg, Nat.zero_add]; simpa using hu⟩) (fun e => by cases e) (fun u hu => by simp at hu; subst hu; rfl) (by unfold maxLen; rw [List.length_map]; omega) (by rw [List.length_map]; omega) h.kf.2.1
  refine ⟨v, w', h1, F, h.v.keep (fun k hk => h3.block k (h.v.lt k hk) (fun e => h.sep k e.symm hk)) h3.size, ⟨h.kf.1.grown h3 h.kf.2.1 (fun k hk => (h.a.at k hk).1), Nat.le_trans h.kf.2.1 h3.size, h.kf.2.2⟩, ?_, fun k hk hf => ?_⟩
  · rw [List.map_append]; exact h2
  · rcases h4 with e | e
    · exact h.sep k (by rw [← e]; exact hk) hf
    · rw [e] at hk; injection hk with hk
      have := h.v.lt k hf
      omega
/-- one of the list is written anew. -/
theorem OneW.put {b n c : Nat} (h : OneW w0 wr pv now D (.slice (some ⟨b, 0, none⟩) n c) M) (j : Nat) (x : Int) :
    OneW w0 (wr.setCell ⟨b, j, none⟩ (.int .i64 x)) pv now D (.slice (some ⟨b, 0, none⟩) n c) (M.set j x) ∧ wr.grownBy (wr.setCell ⟨b, j, none⟩ (.int .i64 x)) (some b) := by
  obtain ⟨F, h⟩ := h
  obtain ⟨h1, h3⟩ := h.a.set j (.int .i64 x)
  refine ⟨⟨F, h.v.keep (fun k hk => h3.block k (h.v.lt k hk) (fun e => h.sep k (by rw [e]; rfl) hk)) h3.size, ⟨h.kf.1.grown h3 h.kf.2.1 (fun k hk => (h.a.at k hk).1), Nat.le_trans h.kf.2.1 h3.size, h.kf.2.2⟩, ?_, h.sep⟩, h3⟩
  rw [List.map_set]
  exact h1
theorem OneW.reads {b n c : Nat} (h : OneW w0 wr pv now D (.slice (some ⟨b, 0, none⟩) n c) M) {j : Nat} (hj : j < M.length) : wr.cell? ⟨b, j, none⟩ = some (.int .i64 M[j]) ∧ wr.frozen? ⟨b, j, none⟩ = false := by
  obtain ⟨F, h⟩ := h
  refine ⟨?_, h.a.frozen j⟩
  rw [h.a.cell j (by rw [List.length_map]; exact hj), List.getElem_map]
  rfl
end
theorem Beside.put {w w' : World} {b n c : Nat} {t : Value} {T : List (Int × Int)} (h : Beside w t (.slice (some ⟨b, 0, none⟩) n c) T) (hg : w.grownBy w' (some b)) : Beside w' t (.slice (some ⟨b, 0, none⟩) n c) T := ⟨h.1.kept hg h.2, h.2⟩
theorem OneW.new {w0 w1 : World} {pv : Nat} {F : Nat → Prop} (hb1 : Below w0.heap.size w0 w1) (hv : WhW w1 pv 0 [] F) (hF : ∀ k, F k → k = pv) (hp : w0.heap.size ≤ pv) : OneW w0 w1 pv 0 [] (.slice none 0 0) [] :=
  ⟨F, hv, ⟨hb1, hb1.size, fun k hk => by rw [hF k hk]; exact hp⟩, OwnR.nil _ _ _, fun g hg => by simp [Value.ownBlock] at hg⟩
/-! what the list says of what is due -/
structure OnceI (D : List (Int × Int)) (M : List Int) : Prop where
  has : ∀ q ∈ D, ∃ k : Nat, q.1 = (k : Int) ∧ M[k]? = some q.2
  only : ∀ (k : Nat) (x : Int), M[k]? = some x → x = 0 ∨ ((k : Int), x) ∈ D
theorem OnceI.nil : OnceI [] [] := ⟨fun q h => by simp at h, fun k x h => by simp at h⟩
theorem OnceI.none {D : List (Int × Int)} {M : List Int} (h : OnceI D M) {k : Nat} (hk : M.length ≤ k) : findD (k : Int) D = none := by
  cases hf : findD (k : Int) D with
  | none => rfl
  | some q =>
    obtain ⟨h1, h2⟩ := findD_some hf
    obtain ⟨j, h3, h4⟩ := h.has q h1
    have := (List.getElem?_eq_some_iff.1 h4).1
    omega
theorem OnceI.set {D : List (Int × Int)} {M : List Int} (h : OnceI D M) (at_ : Int) : OnceI (setD (M.length : Int) at_ D) (M ++ [at_]) := by
  have hn : dropD (M.length : Int) D = D := dropD_none (h.none (Nat.le_refl _))
  have hm : ∀ q, q ∈ setD (M.length : Int) at_ D ↔ q = ((M.length : Int), at_) ∨ q ∈ D := by
    intro q
    unfold setD
    rw [mem_insL, hn]
  refine ⟨fun q hq => ?_, fun k x hx => ?_⟩
  · rcases (hm q).1 hq with rfl | hq
    · exact ⟨M.length, rfl, by rw [List.getElem?_append_right (Nat.le_refl _)]; simp⟩
    · obtain ⟨k, h1, h2⟩ := h.has q hq
      exact ⟨k, h1, by rw [List.getElem?_append_left (List.getElem?_eq_some_iff.1 h2).1]; exact h2⟩
  · by_cases hk : k < M.length
    · rw [List.getElem?_append_left hk] at hx
      rcases h.only k x hx with e | e
      · exact .inl e
      · exact .inr ((hm _).2 (.inr e))
    · rw [List.getElem?_append_right (by omega)] at hx
      have hl := (List.getElem?_eq_some_iff.1 hx).1
      simp at hl
      have e : k = M.length := by omega
      subst e
      simp at hx
      subst hx
      exact .inr ((hm _).2 (.inl rfl))
theorem OnceI.zero {D : List (Int × Int)} {M : List Int} (h : OnceI D M) : OnceI D (M ++ [0]) := by
  refine ⟨fun q hq => ?_, fun k x hx => ?_⟩
  · obtain ⟨k, h1, h2⟩ := h.has q hq
    exact ⟨k, h1, by rw [List.getElem?_append_left (List.getElem?_eq_some_iff.1 h2).1]; exact h2⟩
  · by_cases hk : k < M.length
    · rw [List.getElem?_append_left hk] at hx
      exact h.only k x hx
    · rw [List.getElem?_append_right (by omega)] at hx
      have hl := (List.getElem?_eq_some_iff.1 hx).1
      simp at hl
      have e : k - M.length = 0 := by omega
      rw [e] at hx
      simp at hx
      exact .inl hx.symm
theorem OnceI.take {q : Int × Int} {D : List (Int × Int)} {M : List Int} (h : OnceI (q :: D) M) (hn : ((q :: D).map Prod.fst).Nodup) : ∃ k : Nat, q.1 = (k : Int) ∧ (∃ hk : k < M.length, M[k] = q.2) ∧ OnceI D (M.set k 0) := by
  obtain ⟨k, h1, h2⟩ := h.has q (List.mem_cons_self ..)
  obtain ⟨hk, h3⟩ := List.getElem?_eq_some_iff.1 h2
  rw [List.map_cons, List.nodup_cons] at hn
  refine ⟨k, h1, ⟨hk, h3⟩, fun r hr => ?_, fun j x hx => ?_⟩
  · obtain ⟨j, g1, g2⟩ := h.has r (List.mem_cons_of_mem _ hr)
    refine ⟨j, g1, ?_⟩
    have hne : k ≠ j := fun e => hn.1 (by rw [h1, e, ← g1]; exact List.mem_map_of_mem hr)
    rw [List.getElem?_set_ne hne]; exact g2
  · by_cases e : k = j
    · subst e
      rw [List.getElem?_set_self hk] at hx
      injection hx with hx
      exact .inl hx.symm
    · rw [List.getElem?_set_ne e] at hx
      rcases h.only j x hx with h4 | h4
      · exact .inl h4
      · rcases List.mem_cons.1 h4 with h5 | h5
        · exact absurd (by rw [← h5] at h1; dsimp only at h1; omega) e
        · exact .inr h5
theorem OnceI.done {M : List Int} (h : OnceI [] M) {k : Nat} (hk : k < M.length) : M[k] = 0 := by
  rcases h.only k M[k] (List.getElem?_eq_getElem hk) with e | e
  · exact e
  · simp at e
end Go.Proofs.Ytjdedlmphghpnaa
