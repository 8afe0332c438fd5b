/-
  Words for rows of one-cell values: a row of the call's own; numbers; the builtin append of such rows.
-/
import Derived.Test.YtbkipfmnbfjkcaaBase
namespace Go.Proofs.Ytbkipfmnbfjkcaa
open Go.RowKit
set_option maxRecDepth 100000
set_option linter.unusedVariables false
def inV (x : Nat) : Value := .int .i64 (x : Int)
theorem inV_one (l : List Nat) : ∀ v ∈ l.map inV, v.oneCell' = true := by
  intro v hv; obtain ⟨u, _, rfl⟩ := List.mem_map.1 hv; rfl
theorem info_in : (Try.prog.info? 3).map (fun i => (i.zero, i.size, i.bytes)) = some (some (.int .i64 0), 1, 8) := by kernel_rfl
theorem map_inV {l : List Nat} {i : Nat} (h : i < (l.map inV).length) : (l.map inV)[i] = .int .i64 (l.getD i 0 : Nat) := by
  rw [List.getElem_map, List.getD_eq_getElem?_getD, List.getElem?_eq_getElem (by simpa using h)]; rfl
/-- the slice value v owns, from block 'base' on, a row of one-cell values. -/
def OwnR (w : World) (base : Nat) (t : TypeId) (v : Value) (xs : List Value) : Prop := w.ownsRow base t 1 v xs.length xs
theorem OwnR.nil (w : World) (base t : Nat) : OwnR w base t (.slice none 0 0) [] := World.ownsRow_nil w base t 1
theorem OwnR.shape {w : World} {base t : Nat} {v : Value} {xs : List Value} (h : OwnR w base t v xs) : ∃ A c, v = .slice A xs.length c ∧ xs.length ≤ c := by
  rcases h.2 with ⟨rfl, h0⟩ | ⟨g, cap, cur, rfl, _, _, hn, _⟩
  · exact ⟨none, 0, by rw [h0], by omega⟩
  · exact ⟨_, _, rfl, hn⟩
theorem OwnR.pos {w : World} {base t : Nat} {v : Value} {xs : List Value} (h : OwnR w base t v xs) (hp : 0 < xs.length) : ∃ g c, v = .slice (some ⟨g, 0, none⟩) xs.length c ∧ base ≤ g ∧ g < w.heap.size ∧ xs.length ≤ c := by
  rcases h.2 with ⟨rfl, h0⟩ | ⟨g, cap, cur, rfl, hb, hg, hn, _⟩
  · omega
  · exact ⟨_, _, rfl, hb, (Array.getElem?_eq_some_iff.1 hg).1, hn⟩
theorem OwnR.cell {w : World} {base t g n c : Nat} {xs : List Value} (h : OwnR w base t (.slice (some ⟨g, 0, none⟩) n c) xs) (j : Nat) (hj : j < xs.length) : w.cell? ⟨g, j, none⟩ = some xs[j] := by
  have hn : n = xs.length := by
    rcases h.2 with ⟨h', _⟩ | ⟨g', cap', cur, h', _⟩
    · cases h'
    · cases h'; rfl
  subst hn
  rw [World.ownsRow.cellAt h j (by omega)]; exact List.getElem?_eq_getElem hj
theorem OwnR.frozen {w : World} {base t g n c : Nat} {xs : List Value} (h : OwnR w base t (.slice (some ⟨g, 0, none⟩) n c) xs) (j : Nat) : w.frozen? ⟨g, j, none⟩ = false := by
  have hn : n = xs.length := by
    rcases h.2 with ⟨h', _⟩ | ⟨g', cap', cur, h', _⟩
    · cases h'
    · cases h'; rfl
  subst hn
  exact World.ownsRow.frozenAt h j
theorem OwnR.set {w : World} {base t g n c : Nat} {xs : List Value} (h : OwnR w base t (.slice (some ⟨g, 0, none⟩) n c) xs) (j : Nat) (u : Value) :
    OwnR (w.setCell ⟨g, j, none⟩ u) base t (.slice (some ⟨g, 0, none⟩) n c) (xs.set j u) ∧ w.grownBy (w.setCell ⟨g, j, none⟩ u) (some g) := by
  have hn : n = xs.length := by
    rcases h.2 with ⟨h', _⟩ | ⟨g', cap', cur, h', _⟩
    · cases h'
    · cases h'; rfl
  subst hn
  have := World.ownsRow.stored h j u
  refine ⟨?_, this.2⟩
  unfold OwnR; rw [List.length_set]; exact this.1
theorem OwnR.kept {w w' : World} {base t : Nat} {v : Value} {xs : List Value} {row : Option Nat} (h : OwnR w base t v xs) (hg : w.grownBy w' row) (hne : v.ownBlock = none ∨ v.ownBlock ≠ row) : OwnR w' base t v xs := World.ownsRow.kept h hg hne
theorem OwnR.alloc {w : World} {base t : Nat} {v : Value} {xs : List Value} (h : OwnR w base t v xs) (o : Obj) : OwnR (w.alloc o) base t v xs := World.ownsRow.alloc h o
theorem grown_of_below {w w' : World} (h : Below w.heap.size w w') : w.grownBy w' none := ⟨h.os, h.tape, h.output, h.size, fun k hk _ => h.block k hk⟩
theorem OwnR.below {w w' : World} {base t : Nat} {v : Value} {xs : List Value} (h : OwnR w base t v xs) (hb : Below w.heap.size w w') : OwnR w' base t v xs := by
  refine h.kept (grown_of_below hb) ?_
  cases hv : v.ownBlock with
  | none => exact .inl rfl
  | some k => exact .inr (by simp)
theorem OwnR.at {w : World} {base t : Nat} {v : Value} {xs : List Value} (h : OwnR w base t v xs) : ∀ k, v.ownBlock = some k → base ≤ k ∧ k < w.heap.size := World.ownsRow.lt h
theorem OwnR.ne {w : World} {base base' t t' : Nat} {v v' : Value} {xs xs' : List Value} (h : OwnR w base t v xs) (h' : OwnR w base' t' v' xs') (hne : t ≠ t') : v.ownBlock = none ∨ v.ownBlock ≠ v'.ownBlock := by
  rcases h'.2 with ⟨e1, _⟩ | ⟨g', cap, cur, e1, _, hh, _⟩
  · rcases h.2 with ⟨e2, _⟩ | ⟨g, cap, cur, e2, _⟩
    · exact .inl (by rw [e2]; rfl)
    · exact .inr (by rw [e1, e2]; simp [Value.ownBlock])
  · rcases h.2 with ⟨e2, _⟩ | ⟨g, cap', cur', e2, _, hg, _⟩
    · exact .inl (by rw [e2]; rfl)
    · refine .inr ?_
      rw [e1, e2]
      simp only [Value.ownBlock, ne_eq, Option.some.injEq]
      rintro rfl
      rw [hg] at hh
      injection hh with hh
      injection hh with _ h2
      exact hne h2
theorem OwnR.own {g n c : Nat} : (Value.slice (some ⟨g, 0, none⟩) n c).ownBlock = some g := rfl

theorem below_grown {B : Nat} {a w w' : World} {base t : Nat} {v : Value} {xs : List Value} (h : Below B a w) (ho : OwnR w base t v xs) (hg : w.grownBy w' v.ownBlock) (hb : B ≤ base) (hs : B ≤ w.heap.size) : Below B a w' :=
  h.grown hg hs fun k hk => Nat.le_trans hb (ho.at k hk).1


/-- the slice that begins at A reads, in world w and below block B, as the numbers l. -/
def IntS (w : World) (B : Nat) (A : Option Addr) (l : List Int) : Prop :=
  0 < l.length → ∃ b off, A = some ⟨b, off, none⟩ ∧ b < B ∧ ∀ i (h : i < l.length), w.cell? ⟨b, off + i, none⟩ = some (.int .i64 l[i])
theorem IntS.nil (w : World) (B : Nat) (A : Option Addr) : IntS w B A [] := fun h => absurd h (by simp)
theorem IntS.keep {w w' : World} {B : Nat} {A : Option Addr} {l : List Int} (h : IntS w B A l) (hk : ∀ p : Addr, p.block < B → w'.cell? p = w.cell? p) : IntS w' B A l := fun hl => by
  obtain ⟨b, off, e, hb, hc⟩ := h hl
  exact ⟨b, off, e, hb, fun i hi => (hk _ hb).trans (hc i hi)⟩
theorem IntS.more {w : World} {B B' : Nat} {A : Option Addr} {l : List Int} (h : IntS w B A l) (hB : B ≤ B') : IntS w B' A l := fun hl => by
  obtain ⟨b, off, e, hb, hc⟩ := h hl
  exact ⟨b, off, e, by omega, hc⟩
theorem IntS.below {w w' : World} {B B' : Nat} {A : Option Addr} {l : List Int} (h : IntS w B A l) (hb : Below B' w w') (hB : B ≤ B') : IntS w' B A l := h.keep fun _ hp => hb.cell (Nat.lt_of_lt_of_le hp hB)
theorem IntS.drew {w : World} {B : Nat} {A : Option Addr} {l : List Int} (h : IntS w B A l) : IntS w.drew B A l := h
/-- the slice less what is ahead of k. -/
theorem IntS.cut {w : World} {B : Nat} {b off : Nat} {l : List Int} (h : IntS w B (some ⟨b, off, none⟩) l) (k : Nat) : IntS w B (some ⟨b, off + k, none⟩) (l.drop k) := fun hl => by
  simp at hl
  obtain ⟨b', off', e, hb, hc⟩ := h (by omega)
  simp only [Option.some.injEq, Addr.mk.injEq, and_true] at e
  obtain ⟨rfl, rfl⟩ := e
  refine ⟨_, _, rfl, hb, fun i hi => ?_⟩
  simp at hi
  have := hc (k + i) (by omega)
  rw [List.getElem_drop, Nat.add_assoc]
  exact this
theorem IntS.take {w : World} {B : Nat} {A : Option Addr} {l : List Int} (h : IntS w B A l) (k : Nat) : IntS w B A (l.take k) := fun hl => by
  rw [List.length_take] at hl
  obtain ⟨b, off, e, hb, hc⟩ := h (by omega)
  refine ⟨b, off, e, hb, fun i hi => ?_⟩
  rw [List.length_take] at hi
  rw [List.getElem_take]; exact hc i (by omega)
/-- numbers as cells. -/
def izV (z : Int) : Value := .int .i64 z
theorem izV_one (l : List Int) : ∀ v ∈ l.map izV, v.oneCell' = true := by
  intro v hv; obtain ⟨u, _, rfl⟩ := List.mem_map.1 hv; rfl
/-- an own row of numbers reads as those. -/
theorem OwnR.ints {w : World} {base : Nat} {v : Value} {l : List Int} (h : OwnR w base 3 v (l.map izV)) : ∃ A c, v = .slice A l.length c ∧ l.length ≤ c ∧ IntS w w.heap.size A l ∧ (A = none → c = 0) ∧ (∀ a, A = some a → base ≤ a.block ∧ a.block < w.heap.size ∧ a.off = 0 ∧ a.spot = none) := by
  rcases h.2 with ⟨rfl, h0⟩ | ⟨g, cap, cur, rfl, hb, hg, hn, hm, hsz, ht⟩
  · obtain rfl : l = [] := List.eq_nil_of_length_eq_zero (by simpa using h0)
    exact ⟨none, 0, rfl, Nat.le_refl _, IntS.nil _ _ _, fun _ => rfl, fun a e => by cases e⟩
  · have hlt : g < w.heap.size := (Array.getElem?_eq_some_iff.1 hg).1
    rw [List.length_map] at *
    refine ⟨some ⟨g, 0, none⟩, cap, rfl, hn, fun hpos => ⟨g, 0, rfl, hlt, fun i hi => ?_⟩, (fun e => by cases e), fun a e => ?_⟩
    · have hc := h.cell i (by rw [List.length_map]; exact hi)
      rw [Nat.zero_add, hc]; simp [izV]
    · cases e; exact ⟨hb, hlt, rfl, rfl⟩

/-- 'append(v, x...)' of rows whose elements have one cell each. -/
theorem run_app_row (w : World) (base st e ty : Nat) (i0 : TypeInfo) (z : Value) (bytes : Nat) (ht : Try.prog.underlying st = some (.slice e)) (hi : Try.prog.info? e = some i0) (hz0 : i0.zero = some z) (hz1 : i0.size = 1) (hz2 : i0.bytes = bytes) (hzs : z.cells.size = 1)
    (v : Value) (xs : List Value) (hown : OwnR w base e v xs) (A : Option Addr) (m c : Nat) (news : List Value) (hl : news.length = m) (hnews : 0 < m → ∃ b off, A = some ⟨b, off, none⟩ ∧ ∀ j u, news[j]? = some u → w.cell? ⟨b, off + j, none⟩ = some u) (hnil : A = none → c = 0) (h1 : ∀ u ∈ news, u.oneCell' = true)
    (h63 : xs.length + m ≤ maxLen) (hbytes : (xs.length + m) * bytes ≤ 140737488355328) (hbase : base ≤ w.heap.size) :
    ∃ v' w', (Builtin.append_ #[st, st] ty #[v, .slice A m c]).run Try.prog w = .ok v' w' ∧ OwnR w' base e v' (xs ++ news) ∧ w.grownBy w' v.ownBlock ∧ (v'.ownBlock = v.ownBlock ∨ v'.ownBlock = some w.heap.size) := by
  rcases A with _ | ad
  · have hm0 : m = 0 := by
      rcases Nat.eq_zero_or_pos m with h | h
      · exact h
      · obtain ⟨b, off, e, _⟩ := hnews h
        cases e
    subst hm0
    obtain rfl := hnil rfl
    obtain rfl : news = [] := List.eq_nil_of_length_eq_zero hl
    exact ⟨v, w, run_append_owned_none (P := Try.prog) w base st ty e i0 1 ht hi v xs.length xs hown, by simpa using hown, World.grownBy.refl w _, .inl rfl⟩
  · have hn : ∀ j u, news[j]? = some u → w.cell? (ad.add j) = some u := by
      intro j u hj
      have hjl : j < news.length := (List.getElem?_eq_some_iff.1 hj).1
      obtain ⟨b, off, e, hc⟩ := hnews (by omega)
      cases e
      rw [add_none]
      exact hc j u hj
    obtain ⟨v', w', hr, h2, h3, _, h5⟩ := run_append_own_at (P := Try.prog) w base st ty e i0 z 1 bytes ht hi hz0 hz1 hz2 hzs (by omega) v xs.length xs hown ad m c news (by omega) hn h1 h63 hbytes hbase
    refine ⟨v', w', hr, ?_, h3, h5⟩
    unfold OwnR
    rw [List.length_append, hl]
    exact h2
theorem IntS.lit (w : World) (l : List Int) (cs : Array Value) (t : TypeId) (fr : Nat × Nat) (hcs : cs = (l.map izV).toArray) : IntS (w.alloc (.cells cs t fr)) (w.heap.size + 1) (some ⟨w.heap.size, 0, none⟩) l := fun _ =>
  ⟨w.heap.size, 0, rfl, Nat.lt_succ_self _, fun i hi => by
    subst hcs
    rw [cell_of_row (w.alloc _) w.heap.size (0 + i) _ t fr (heap_alloc_new w _)]
    simp [izV, hi]⟩
/-- 'append(v, x...)' of rows whose elements have two cells each. -/
theorem run_app_two (w : World) (base t e ty : Nat) (i0 : TypeInfo) (z : Value) (bytes : Nat) (ht : Try.prog.underlying t = some (.slice e)) (hi : Try.prog.info? e = some i0) (hz0 : i0.zero = some z) (hz1 : i0.size = 2) (hz2 : i0.bytes = bytes) (hzs : z.cells.size = 2)
    (v : Value) (n : Nat) (xs : List Value) (hown : w.ownsRow base e 2 v n xs) (A : Option Addr) (m c : Nat) (news : List Value) (hl : news.length = m * 2) (hnews : 0 < m → ∃ b off, A = some ⟨b, off, none⟩ ∧ ∀ j u, news[j]? = some u → w.cell? ⟨b, off + j, none⟩ = some u) (hnil : A = none → c = 0) (h1 : ∀ u ∈ news, u.oneCell' = true)
    (h63 : n + m ≤ maxLen) (hbytes : (n + m) * bytes ≤ 140737488355328) (hbase : base ≤ w.heap.size) :
    ∃ v' w', (Builtin.append_ #[t, t] ty #[v, .slice A m c]).run Try.prog w = .ok v' w' ∧ w'.ownsRow base e 2 v' (n + m) (xs ++ news) ∧ w.grownBy w' v.ownBlock ∧ (v'.ownBlock = v.ownBlock ∨ v'.ownBlock = some w.heap.size) := by
  rcases A with _ | ad
  · have hm0 : m = 0 := by
      rcases Nat.eq_zero_or_pos m with h | h
      · exact h
      · obtain ⟨b, off, e, _⟩ := hnews h
        cases e
    subst hm0
    obtain rfl := hnil rfl
    obtain rfl : news = [] := List.eq_nil_of_length_eq_zero (by omega)
    exact ⟨v, w, run_append_owned_none (P := Try.prog) w base t ty e i0 2 ht hi v n xs hown, by simpa using hown, World.grownBy.refl w _, .inl rfl⟩
  · have hn : ∀ j u, news[j]? = some u → w.cell? (ad.add j) = some u := by
      intro j u hj
      have hjl : j < news.length := (List.getElem?_eq_some_iff.1 hj).1
      obtain ⟨b, off, e, hc⟩ := hnews (by omega)
      cases e
      rw [add_none]
      exact hc j u hj
    obtain ⟨v', w', hr, h2, h3, _, h5⟩ := run_append_own_at (P := Try.prog) w base t ty e i0 z 2 bytes ht hi hz0 hz1 hz2 hzs (by omega) v n xs hown ad m c news hl hn h1 h63 hbytes hbase
    exact ⟨v', w', hr, h2, h3, h5⟩
theorem wpList_app_two {w : World} {ops : Array Oper} {rest : List Oper} {o : Oper} {a : Act} {Q : Exit → Act → World → Prop} (hgd : o.guard = none) (s x : Operand) (base t e : Nat) (i0 : TypeInfo) (z : Value) (bytes : Nat)
    (ho : o.op = .call { callee := .builtin .append, args := #[s, x], argTypes := #[t, t] }) (ht : Try.prog.underlying t = some (.slice e)) (hi : Try.prog.info? e = some i0) (hz0 : i0.zero = some z) (hz1 : i0.size = 2) (hz2 : i0.bytes = bytes) (hzs : z.cells.size = 2)
    (v : Value) (n : Nat) (xs : List Value) (A : Option Addr) (m c : Nat) (news : List Value) (hs : a.eval s = v) (hx : a.eval x = .slice A m c) (hown : w.ownsRow base e 2 v n xs) (hl : news.length = m * 2) (hnews : 0 < m → ∃ b off, A = some ⟨b, off, none⟩ ∧ ∀ j u, news[j]? = some u → w.cell? ⟨b, off + j, none⟩ = some u) (hnil : A = none → c = 0) (h1 : ∀ u ∈ news, u.oneCell' = true)
    (h63 : n + m ≤ maxLen) (hbytes : (n + m) * bytes ≤ 140737488355328) (hbase : base ≤ w.heap.size)
    (h : ∀ v' w', w'.ownsRow base e 2 v' (n + m) (xs ++ news) → w.grownBy w' v.ownBlock → (v'.ownBlock = v.ownBlock ∨ v'.ownBlock = some w.heap.size) → wpList Try.prog ops Q rest (a.put o.dst v') w') : wpList Try.prog ops Q (o :: rest) a w := by
  obtain ⟨v', w', hr, h2, h3, h4⟩ := run_app_two w base t e o.type i0 z bytes ht hi hz0 hz1 hz2 hzs v n xs hown A m c news hl hnews hnil h1 h63 hbytes hbase
  refine wpList_plain hgd fun K hK => ?_
  unfold Oper.wp execOp
  simp only [ho, resolve, invoke, builtin, Sem.run_bind, Sem.run_pure, Result.andThen_ok, List.map_toArray, List.map_cons, List.map_nil, hs, hx, hr]
  exact hK _ _ (h v' w' h2 h3 h4)

end Go.Proofs.Ytbkipfmnbfjkcaa
