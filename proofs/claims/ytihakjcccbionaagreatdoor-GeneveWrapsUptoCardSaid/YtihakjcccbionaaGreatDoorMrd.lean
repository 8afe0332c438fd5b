import Derived.Test.YtihakjcccbionaaGreatDoorBase
import Derived.Test.YtihakjcccbionaaGreatDoorMcu
import Derived.Test.YtihakjcccbionaaGreatDoorMla
import Derived.StillTailTactics
import Derived.Deep.CutBlock
section
/-
  Words for rows of one-cell values: a row of the call's own; numbers; the builtin append of such rows.
-/
namespace Go.Proofs.YtihakjcccbionaaGreatDoor
open Go.RowKit
set_option maxRecDepth 100000
set_option linter.unusedVariables false
def inV (x : Nat) : Value := .int .i64 (x : Int)
theorem inV_one (l : List Nat) : ∀ v ∈ l.map inV, v.oneCell' = true := by
  intro v hv; obtain ⟨u, _, rfl⟩ := List.mem_map.1 hv; rfl
theorem info_in : (Tryz.prog.info? 3).map (fun i => (i.zero, i.size, i.bytes)) = some (some (.int .i64 0), 1, 8) := by kernel_rfl
theorem map_inV {l : List Nat} {i : Nat} (h : i < (l.map inV).length) : (l.map inV)[i] = .int .i64 (l.getD i 0 : Nat) := by
  rw [List.getElem_map, List.getD_eq_getElem?_getD, List.getElem?_eq_getElem (by simpa using h)]; rfl
/-- the slice value v owns, from block 'base' on, a row of one-cell values. -/
def OwnR (w : World) (base : Nat) (t : TypeId) (v : Value) (xs : List Value) : Prop := w.ownsRow base t 1 v xs.length xs
theorem OwnR.nil (w : World) (base t : Nat) : OwnR w base t (.slice none 0 0) [] := World.ownsRow_nil w base t 1
theorem OwnR.shape {w : World} {base t : Nat} {v : Value} {xs : List Value} (h : OwnR w base t v xs) : ∃ A c, v = .slice A xs.length c ∧ xs.length ≤ c := by
  rcases h.2 with ⟨rfl, h0⟩ | ⟨g, cap, cur, rfl, _, _, hn, _⟩
  · exact ⟨none, 0, by rw [h0], by omega⟩
  · exact ⟨_, _, rfl, hn⟩
theorem OwnR.pos {w : World} {base t : Nat} {v : Value} {xs : List Value} (h : OwnR w base t v xs) (hp : 0 < xs.length) : ∃ g c, v = .slice (some ⟨g, 0, none⟩) xs.length c ∧ base ≤ g ∧ g < w.heap.size ∧ xs.length ≤ c := by
  rcases h.2 with ⟨rfl, h0⟩ | ⟨g, cap, cur, rfl, hb, hg, hn, _⟩
  · omega
  · exact ⟨_, _, rfl, hb, (Array.getElem?_eq_some_iff.1 hg).1, hn⟩
theorem OwnR.cell {w : World} {base t g n c : Nat} {xs : List Value} (h : OwnR w base t (.slice (some ⟨g, 0, none⟩) n c) xs) (j : Nat) (hj : j < xs.length) : w.cell? ⟨g, j, none⟩ = some xs[j] := by
  have hn : n = xs.length := by
    rcases h.2 with ⟨h', _⟩ | ⟨g', cap', cur, h', _⟩
    · cases h'
    · cases h'; rfl
  subst hn
  rw [World.ownsRow.cellAt h j (by omega)]; exact List.getElem?_eq_getElem hj
theorem OwnR.frozen {w : World} {base t g n c : Nat} {xs : List Value} (h : OwnR w base t (.slice (some ⟨g, 0, none⟩) n c) xs) (j : Nat) : w.frozen? ⟨g, j, none⟩ = false := by
  have hn : n = xs.length := by
    rcases h.2 with ⟨h', _⟩ | ⟨g', cap', cur, h', _⟩
    · cases h'
    · cases h'; rfl
  subst hn
  exact World.ownsRow.frozenAt h j
theorem OwnR.set {w : World} {base t g n c : Nat} {xs : List Value} (h : OwnR w base t (.slice (some ⟨g, 0, none⟩) n c) xs) (j : Nat) (u : Value) :
    OwnR (w.setCell ⟨g, j, none⟩ u) base t (.slice (some ⟨g, 0, none⟩) n c) (xs.set j u) ∧ w.grownBy (w.setCell ⟨g, j, none⟩ u) (some g) := by
  have hn : n = xs.length := by
    rcases h.2 with ⟨h', _⟩ | ⟨g', cap', cur, h', _⟩
    · cases h'
    · cases h'; rfl
  subst hn
  have := World.ownsRow.stored h j u
  refine ⟨?_, this.2⟩
  unfold OwnR; rw [List.length_set]; exact this.1
theorem OwnR.kept {w w' : World} {base t : Nat} {v : Value} {xs : List Value} {row : Option Nat} (h : OwnR w base t v xs) (hg : w.grownBy w' row) (hne : v.ownBlock = none ∨ v.ownBlock ≠ row) : OwnR w' base t v xs := World.ownsRow.kept h hg hne
theorem OwnR.alloc {w : World} {base t : Nat} {v : Value} {xs : List Value} (h : OwnR w base t v xs) (o : Obj) : OwnR (w.alloc o) base t v xs := World.ownsRow.alloc h o
theorem grown_of_below {w w' : World} (h : Below w.heap.size w w') : w.grownBy w' none := ⟨h.os, h.tape, h.output, h.size, fun k hk _ => h.block k hk⟩
theorem OwnR.below {w w' : World} {base t : Nat} {v : Value} {xs : List Value} (h : OwnR w base t v xs) (hb : Below w.heap.size w w') : OwnR w' base t v xs := by
  refine h.kept (grown_of_below hb) ?_
  cases hv : v.ownBlock with
  | none => exact .inl rfl
  | some k => exact .inr (by simp)
theorem OwnR.at {w : World} {base t : Nat} {v : Value} {xs : List Value} (h : OwnR w base t v xs) : ∀ k, v.ownBlock = some k → base ≤ k ∧ k < w.heap.size := World.ownsRow.lt h
theorem OwnR.ne {w : World} {base base' t t' : Nat} {v v' : Value} {xs xs' : List Value} (h : OwnR w base t v xs) (h' : OwnR w base' t' v' xs') (hne : t ≠ t') : v.ownBlock = none ∨ v.ownBlock ≠ v'.ownBlock := by
  rcases h'.2 with ⟨e1, _⟩ | ⟨g', cap, cur, e1, _, hh, _⟩
  · rcases h.2 with ⟨e2, _⟩ | ⟨g, cap, cur, e2, _⟩
    · exact .inl (by rw [e2]; rfl)
    · exact .inr (by rw [e1, e2]; simp [Value.ownBlock])
  · rcases h.2 with ⟨e2, _⟩ | ⟨g, cap', cur', e2, _, hg, _⟩
    · exact .inl (by rw [e2]; rfl)
    · refine .inr ?_
      rw [e1, e2]
      simp only [Value.ownBlock, ne_eq, Option.some.injEq]
      rintro rfl
      rw [hg] at hh
      injection hh with hh
      injection hh with _ h2
      exact hne h2
theorem OwnR.own {g n c : Nat} : (Value.slice (some ⟨g, 0, none⟩) n c).ownBlock = some g := rfl

theorem below_grown {B : Nat} {a w w' : World} {base t : Nat} {v : Value} {xs : List Value} (h : Below B a w) (ho : OwnR w base t v xs) (hg : w.grownBy w' v.ownBlock) (hb : B ≤ base) (hs : B ≤ w.heap.size) : Below B a w' :=
  h.grown hg hs fun k hk => Nat.le_trans hb (ho.at k hk).1


/-- the slice that begins at A reads, in world w and below block B, as the numbers l. -/
def IntS (w : World) (B : Nat) (A : Option Addr) (l : List Int) : Prop :=
  0 < l.length → ∃ b off, A = some ⟨b, off, none⟩ ∧ b < B ∧ ∀ i (h : i < l.length), w.cell? ⟨b, off + i, none⟩ = some (.int .i64 l[i])
theorem IntS.nil (w : World) (B : Nat) (A : Option Addr) : IntS w B A [] := fun h => absurd h (by simp)
theorem IntS.keep {w w' : World} {B : Nat} {A : Option Addr} {l : List Int} (h : IntS w B A l) (hk : ∀ p : Addr, p.block < B → w'.cell? p = w.cell? p) : IntS w' B A l := fun hl => by
  obtain ⟨b, off, e, hb, hc⟩ := h hl
  exact ⟨b, off, e, hb, fun i hi => (hk _ hb).trans (hc i hi)⟩
theorem IntS.more {w : World} {B B' : Nat} {A : Option Addr} {l : List Int} (h : IntS w B A l) (hB : B ≤ B') : IntS w B' A l := fun hl => by
  obtain ⟨b, off, e, hb, hc⟩ := h hl
  exact ⟨b, off, e, by omega, hc⟩
theorem IntS.below {w w' : World} {B B' : Nat} {A : Option Addr} {l : List Int} (h : IntS w B A l) (hb : Below B' w w') (hB : B ≤ B') : IntS w' B A l := h.keep fun _ hp => hb.cell (Nat.lt_of_lt_of_le hp hB)
theorem IntS.drew {w : World} {B : Nat} {A : Option Addr} {l : List Int} (h : IntS w B A l) : IntS w.drew B A l := h
/-- the slice less what is ahead of k. -/
theorem IntS.cut {w : World} {B : Nat} {b off : Nat} {l : List Int} (h : IntS w B (some ⟨b, off, none⟩) l) (k : Nat) : IntS w B (some ⟨b, off + k, none⟩) (l.drop k) := fun hl => by
  simp at hl
  obtain ⟨b', off', e, hb, hc⟩ := h (by omega)
  simp only [Option.some.injEq, Addr.mk.injEq, and_true] at e
  obtain ⟨rfl, rfl⟩ := e
  refine ⟨_, _, rfl, hb, fun i hi => ?_⟩
  simp at hi
  have := hc (k + i) (by omega)
  rw [List.getElem_drop, Nat.add_assoc]
  exact this
theorem IntS.take {w : World} {B : Nat} {A : Option Addr} {l : List Int} (h : IntS w B A l) (k : Nat) : IntS w B A (l.take k) := fun hl => by
  rw [List.length_take] at hl
  obtain ⟨b, off, e, hb, hc⟩ := h (by omega)
  refine ⟨b, off, e, hb, fun i hi => ?_⟩
  rw [List.length_take] at hi
  rw [List.getElem_take]; exact hc i (by omega)
/-- numbers as cells. -/
def izV (z : Int) : Value := .int .i64 z
theorem izV_one (l : List Int) : ∀ v ∈ l.map izV, v.oneCell' = true := by
  intro v hv; obtain ⟨u, _, rfl⟩ := List.mem_map.1 hv; rfl
/-- an own row of numbers reads as those. -/
theorem OwnR.ints {w : World} {base : Nat} {v : Value} {l : List Int} (h : OwnR w base 3 v (l.map izV)) : ∃ A c, v = .slice A l.length c ∧ l.length ≤ c ∧ IntS w w.heap.size A l ∧ (A = none → c = 0) ∧ (∀ a, A = some a → base ≤ a.block ∧ a.block < w.heap.size ∧ a.off = 0 ∧ a.spot = none) := by
  rcases h.2 with ⟨rfl, h0⟩ | ⟨g, cap, cur, rfl, hb, hg, hn, hm, hsz, ht⟩
  · obtain rfl : l = [] := List.eq_nil_of_length_eq_zero (by simpa using h0)
    exact ⟨none, 0, rfl, Nat.le_refl _, IntS.nil _ _ _, fun _ => rfl, fun a e => by cases e⟩
  · have hlt : g < w.heap.size := (Array.getElem?_eq_some_iff.1 hg).1
    rw [List.length_map] at *
    refine ⟨some ⟨g, 0, none⟩, cap, rfl, hn, fun hpos => ⟨g, 0, rfl, hlt, fun i hi => ?_⟩, (fun e => by cases e), fun a e => ?_⟩
    · have hc := h.cell i (by rw [List.length_map]; exact hi)
      rw [Nat.zero_add, hc]; simp [izV]
    · cases e; exact ⟨hb, hlt, rfl, rfl⟩

/-- 'append(v, x...)' of rows whose elements have one cell each. -/
theorem run_app_row (w : World) (base st e ty : Nat) (i0 : TypeInfo) (z : Value) (bytes : Nat) (ht : Tryz.prog.underlying st = some (.slice e)) (hi : Tryz.prog.info? e = some i0) (hz0 : i0.zero = some z) (hz1 : i0.size = 1) (hz2 : i0.bytes = bytes) (hzs : z.cells.size = 1)
    (v : Value) (xs : List Value) (hown : OwnR w base e v xs) (A : Option Addr) (m c : Nat) (news : List Value) (hl : news.length = m) (hnews : 0 < m → ∃ b off, A = some ⟨b, off, none⟩ ∧ ∀ j u, news[j]? = some u → w.cell? ⟨b, off + j, none⟩ = some u) (hnil : A = none → c = 0) (h1 : ∀ u ∈ news, u.oneCell' = true)
    (h63 : xs.length + m ≤ maxLen) (hbytes : (xs.length + m) * bytes ≤ 140737488355328) (hbase : base ≤ w.heap.size) :
    ∃ v' w', (Builtin.append_ #[st, st] ty #[v, .slice A m c]).run Tryz.prog w = .ok v' w' ∧ OwnR w' base e v' (xs ++ news) ∧ w.grownBy w' v.ownBlock ∧ (v'.ownBlock = v.ownBlock ∨ v'.ownBlock = some w.heap.size) := by
  rcases A with _ | ad
  · have hm0 : m = 0 := by
      rcases Nat.eq_zero_or_pos m with h | h
      · exact h
      · obtain ⟨b, off, e, _⟩ := hnews h
        cases e
    subst hm0
    obtain rfl := hnil rfl
    obtain rfl : news = [] := List.eq_nil_of_length_eq_zero hl
    exact ⟨v, w, run_append_owned_none (P := Tryz.prog) w base st ty e i0 1 ht hi v xs.length xs hown, by simpa using hown, World.grownBy.refl w _, .inl rfl⟩
  · have hn : ∀ j u, news[j]? = some u → w.cell? (ad.add j) = some u := by
      intro j u hj
      have hjl : j < news.length := (List.getElem?_eq_some_iff.1 hj).1
      obtain ⟨b, off, e, hc⟩ := hnews (by omega)
      cases e
      rw [add_none]
      exact hc j u hj
    obtain ⟨v', w', hr, h2, h3, _, h5⟩ := run_append_own_at (P := Tryz.prog) w base st ty e i0 z 1 bytes ht hi hz0 hz1 hz2 hzs (by omega) v xs.length xs hown ad m c news (by omega) hn h1 h63 hbytes hbase
    refine ⟨v', w', hr, ?_, h3, h5⟩
    unfold OwnR
    rw [List.length_append, hl]
    exact h2
theorem run_app_ints (w : World) (base ty : Nat) (v : Value) (l0 l : List Int) (B c : Nat) (A : Option Addr) (hown : OwnR w base 3 v (l0.map izV)) (hb : IntS w B A l) (hnil : A = none → c = 0) (hlen : l0.length + l.length ≤ 17592186044416) (hbase : base ≤ w.heap.size) :
    ∃ v' w', (Builtin.append_ #[97, 97] ty #[v, .slice A l.length c]).run Tryz.prog w = .ok v' w' ∧ OwnR w' base 3 v' ((l0 ++ l).map izV) ∧ w.grownBy w' v.ownBlock ∧ (v'.ownBlock = v.ownBlock ∨ v'.ownBlock = some w.heap.size) := by
  obtain ⟨i0, hi, hz0, hz1, hz2⟩ := info_parts info_in
  have := run_app_row w base 97 3 ty i0 _ 8 Tryz.underlying97 hi hz0 hz1 hz2 rfl v _ hown A l.length c (l.map izV) (by simp) ?_ hnil (izV_one l) (by unfold maxLen; rw [List.length_map]; omega) (by rw [List.length_map]; omega) hbase
  · rw [List.map_append]; exact this
  · intro hp
    obtain ⟨b, off, e, _, hc⟩ := hb hp
    refine ⟨b, off, e, fun j u hj => ?_⟩
    obtain ⟨hj1, hj2⟩ := List.getElem?_eq_some_iff.1 hj
    rw [hc j (by simpa using hj1), ← hj2]; simp [izV]
theorem wpList_app_ints {w : World} {ops : Array Oper} {rest : List Oper} {o : Oper} {a : Act} {Q : Exit → Act → World → Prop} (hgd : o.guard = none) (s x : Operand)
    (ho : o.op = .call { callee := .builtin .append, args := #[s, x], argTypes := #[97, 97] }) (base : Nat) (v : Value) (l0 l : List Int) (B c : Nat) (A : Option Addr)
    (hs : a.eval s = v) (hx : a.eval x = .slice A l.length c) (hown : OwnR w base 3 v (l0.map izV)) (hb : IntS w B A l) (hnil : A = none → c = 0) (hlen : l0.length + l.length ≤ 17592186044416) (hbase : base ≤ w.heap.size)
    (h : ∀ v' w', OwnR w' base 3 v' ((l0 ++ l).map izV) → w.grownBy w' v.ownBlock → (v'.ownBlock = v.ownBlock ∨ v'.ownBlock = some w.heap.size) → wpList Tryz.prog ops Q rest (a.put o.dst v') w') : wpList Tryz.prog ops Q (o :: rest) a w := by
  obtain ⟨v', w', hr, h2, h3, h4⟩ := run_app_ints w base o.type v l0 l B c A hown hb hnil hlen hbase
  refine wpList_plain hgd fun K hK => ?_
  unfold Oper.wp execOp
  simp only [ho, resolve, invoke, builtin, Sem.run_bind, Sem.run_pure, Result.andThen_ok, List.map_toArray, List.map_cons, List.map_nil, hs, hx, hr]
  exact hK _ _ (h v' w' h2 h3 h4)
theorem IntS.lit (w : World) (l : List Int) (cs : Array Value) (t : TypeId) (fr : Nat × Nat) (hcs : cs = (l.map izV).toArray) : IntS (w.alloc (.cells cs t fr)) (w.heap.size + 1) (some ⟨w.heap.size, 0, none⟩) l := fun _ =>
  ⟨w.heap.size, 0, rfl, Nat.lt_succ_self _, fun i hi => by
    subst hcs
    rw [cell_of_row (w.alloc _) w.heap.size (0 + i) _ t fr (heap_alloc_new w _)]
    simp [izV, hi]⟩
/-- 'append(v, x...)' of rows whose elements have two cells each. -/
theorem run_app_two (w : World) (base t e ty : Nat) (i0 : TypeInfo) (z : Value) (bytes : Nat) (ht : Tryz.prog.underlying t = some (.slice e)) (hi : Tryz.prog.info? e = some i0) (hz0 : i0.zero = some z) (hz1 : i0.size = 2) (hz2 : i0.bytes = bytes) (hzs : z.cells.size = 2)
    (v : Value) (n : Nat) (xs : List Value) (hown : w.ownsRow base e 2 v n xs) (A : Option Addr) (m c : Nat) (news : List Value) (hl : news.length = m * 2) (hnews : 0 < m → ∃ b off, A = some ⟨b, off, none⟩ ∧ ∀ j u, news[j]? = some u → w.cell? ⟨b, off + j, none⟩ = some u) (hnil : A = none → c = 0) (h1 : ∀ u ∈ news, u.oneCell' = true)
    (h63 : n + m ≤ maxLen) (hbytes : (n + m) * bytes ≤ 140737488355328) (hbase : base ≤ w.heap.size) :
    ∃ v' w', (Builtin.append_ #[t, t] ty #[v, .slice A m c]).run Tryz.prog w = .ok v' w' ∧ w'.ownsRow base e 2 v' (n + m) (xs ++ news) ∧ w.grownBy w' v.ownBlock ∧ (v'.ownBlock = v.ownBlock ∨ v'.ownBlock = some w.heap.size) := by
  rcases A with _ | ad
  · have hm0 : m = 0 := by
      rcases Nat.eq_zero_or_pos m with h | h
      · exact h
      · obtain ⟨b, off, e, _⟩ := hnews h
        cases e
    subst hm0
    obtain rfl := hnil rfl
    obtain rfl : news = [] := List.eq_nil_of_length_eq_zero (by omega)
    exact ⟨v, w, run_append_owned_none (P := Tryz.prog) w base t ty e i0 2 ht hi v n xs hown, by simpa using hown, World.grownBy.refl w _, .inl rfl⟩
  · have hn : ∀ j u, news[j]? = some u → w.cell? (ad.add j) = some u := by
      intro j u hj
      have hjl : j < news.length := (List.getElem?_eq_some_iff.1 hj).1
      obtain ⟨b, off, e, hc⟩ := hnews (by omega)
      cases e
      rw [add_none]
      exact hc j u hj
    obtain ⟨v', w', hr, h2, h3, _, h5⟩ := run_append_own_at (P := Tryz.prog) w base t ty e i0 z 2 bytes ht hi hz0 hz1 hz2 hzs (by omega) v n xs hown ad m c news hl hn h1 h63 hbytes hbase
    exact ⟨v', w', hr, h2, h3, h5⟩
theorem wpList_app_two {w : World} {ops : Array Oper} {rest : List Oper} {o : Oper} {a : Act} {Q : Exit → Act → World → Prop} (hgd : o.guard = none) (s x : Operand) (base t e : Nat) (i0 : TypeInfo) (z : Value) (bytes : Nat)
    (ho : o.op = .call { callee := .builtin .append, args := #[s, x], argTypes := #[t, t] }) (ht : Tryz.prog.underlying t = some (.slice e)) (hi : Tryz.prog.info? e = some i0) (hz0 : i0.zero = some z) (hz1 : i0.size = 2) (hz2 : i0.bytes = bytes) (hzs : z.cells.size = 2)
    (v : Value) (n : Nat) (xs : List Value) (A : Option Addr) (m c : Nat) (news : List Value) (hs : a.eval s = v) (hx : a.eval x = .slice A m c) (hown : w.ownsRow base e 2 v n xs) (hl : news.length = m * 2) (hnews : 0 < m → ∃ b off, A = some ⟨b, off, none⟩ ∧ ∀ j u, news[j]? = some u → w.cell? ⟨b, off + j, none⟩ = some u) (hnil : A = none → c = 0) (h1 : ∀ u ∈ news, u.oneCell' = true)
    (h63 : n + m ≤ maxLen) (hbytes : (n + m) * bytes ≤ 140737488355328) (hbase : base ≤ w.heap.size)
    (h : ∀ v' w', w'.ownsRow base e 2 v' (n + m) (xs ++ news) → w.grownBy w' v.ownBlock → (v'.ownBlock = v.ownBlock ∨ v'.ownBlock = some w.heap.size) → wpList Tryz.prog ops Q rest (a.put o.dst v') w') : wpList Tryz.prog ops Q (o :: rest) a w := by
  obtain ⟨v', w', hr, h2, h3, h4⟩ := run_app_two w base t e o.type i0 z bytes ht hi hz0 hz1 hz2 hzs v n xs hown A m c news hl hnews hnil h1 h63 hbytes hbase
  refine wpList_plain hgd fun K hK => ?_
  unfold Oper.wp execOp
  simp only [ho, resolve, invoke, builtin, Sem.run_bind, Sem.run_pure, Result.andThen_ok, List.map_toArray, List.map_cons, List.map_nil, hs, hx, hr]
  exact hK _ _ (h v' w' h2 h3 h4)

end Go.Proofs.YtihakjcccbionaaGreatDoor

end
section
/-
  The walks of New, of a Reader's Num, Left and End.
-/
namespace Go.Proofs.YtihakjcccbionaaGreatDoor
open Go.RowKit
set_option maxRecDepth 100000

set_option maxHeartbeats 1000000 in
theorem new_any (w : World) (B : Nat) (A : Option Addr) (l : List UInt8) (c : Nat) (hn : l.length ≤ 140737488420864) (hb : Byt w B A l) (hB : B ≤ w.heap.size) :
    Calls Tryz.prog 50 #[.slice A l.length c] w fun e w' => ∃ g A' c', e = .returned (.pointer (some ⟨g, 0, none⟩)) ∧ Rd w' g A' l.length c' 0 0 ∧ Byt w' g A' l ∧ l.length ≤ c' ∧ w.heap.size ≤ g ∧ Below w.heap.size w w' := by
  go_enter Tryz.func50, Tryz.ntmps50
  go_wp2_with fail
  refine (clone_any w B A l c hn hb hB).mono ?_
  rintro e w1 ⟨v, rfl, hown, hb1⟩
  obtain ⟨A', c', rfl, hl', hby, _, _⟩ := hown.shape
  go_wp2
  go_ret
  refine ⟨w1.heap.size, A', c', rfl, ⟨heap_alloc_new w1 _⟩, hby.keep (fun p hp => World.cell?_alloc_lt w1 _ p hp), hl', hb1.size, hb1.alloc hb1.size _⟩

set_option maxHeartbeats 1000000 in
theorem left_any (w : World) (g : Nat) (A : Option Addr) (n c k : Nat) (er : Int) (h : Rd w g A n c k er) (hn : n ≤ 140737488420864) (hk : k ≤ n) :
    Calls Tryz.prog 56 #[.pointer (some ⟨g, 0, none⟩)] w fun e w' => e = .returned (.int .i64 ((n : Int) - (k : Int))) ∧ ∃ q, w' = w.drewN q := by
  have h0 := h.c0
  have h1 := h.c1
  go_enter Tryz.func56, Tryz.ntmps56
  go_wp2
  go_quiet (fail)
  go_wp2
  go_ret
  exact ⟨rfl, _, rfl⟩

/-- what End answers. -/
def endS (n k : Nat) (er : Int) : Int := if er ≠ 0 then er else if k < n then 11 else 0

set_option maxHeartbeats 1000000 in
theorem end_any (w : World) (g : Nat) (A : Option Addr) (n c k : Nat) (er : Int) (h : Rd w g A n c k er) (hn : n ≤ 140737488420864) (hk : k ≤ n) :
    Calls Tryz.prog 89 #[.pointer (some ⟨g, 0, none⟩)] w fun e w' => e = .returned (.int .i64 (endS n k er)) ∧ ∃ q, w' = w.drewN q := by
  by_cases he : er = 0
  · subst he
    have h0 : ((0 : Int) != 0) = false := by decide
    by_cases hlt : k < n
    · have hg : (0 : Int) < (n : Int) - (k : Int) := by omega
      go_enter Tryz.func89, Tryz.ntmps89
      go_wp2_with fail
      refine (err_any w g A n c k 0 h).mono ?_
      rintro e w1 ⟨rfl, rfl⟩
      go_wp2_with fail
      refine (left_any w g A n c k 0 h hn hk).mono ?_
      rintro e w1 ⟨rfl, q, rfl⟩
      go_wp2
      go_ret
      exact ⟨by simp [endS, hlt], q, rfl⟩
    · have hg : ¬ (0 : Int) < (n : Int) - (k : Int) := by omega
      go_enter Tryz.func89, Tryz.ntmps89
      go_wp2_with fail
      refine (err_any w g A n c k 0 h).mono ?_
      rintro e w1 ⟨rfl, rfl⟩
      go_wp2_with fail
      refine (left_any w g A n c k 0 h hn hk).mono ?_
      rintro e w1 ⟨rfl, q, rfl⟩
      go_wp2
      go_ret
      exact ⟨by simp [endS, hlt], q, rfl⟩
  · have h0 : (er != 0) = true := by simp; exact he
    go_enter Tryz.func89, Tryz.ntmps89
    go_wp2_with fail
    refine (err_any w g A n c k er h).mono ?_
    rintro e w1 ⟨rfl, rfl⟩
    go_wp2
    go_ret
    exact ⟨by simp [endS, he], 0, rfl⟩

/-- where a number leaves the Reader, what it answers, the error. -/
def numR (l : List UInt8) (k : Nat) (m : Int) : Nat × Nat × Nat :=
  match pieceS l k 0 m with
  | .got N _ j => (k + j, N, 0)
  | .gave er => (k, 0, er)

set_option maxHeartbeats 1000000 in
theorem numC_any (w : World) (g b0 b1 b2 : Nat) (A : Option Addr) (l : List UInt8) (c k : Nat) (m : Int) (h : Rd w g A l.length c k 0) (hk : k ≤ l.length) (hl : l.length ≤ c) (hn : l.length ≤ 140737488420864) (hb : Byt w g A l)
    (h0 : w.heap[b0]? = some (.cells #[.pointer (some ⟨g, 0, none⟩)] 110 (0, 0))) (h1 : w.heap[b1]? = some (.cells #[.int .i64 m] 3 (0, 0))) (h2 : w.heap[b2]? = some (.cells #[.int .u64 0] 98 (0, 0))) (hgb : g ≠ b2) :
    Calls Tryz.prog 85 #[.pointer (some ⟨b0, 0, none⟩), .pointer (some ⟨b1, 0, none⟩), .pointer (some ⟨b2, 0, none⟩)] w fun e w' =>
      ((e = .returned (.tuple #[]) ∧ (numR l k m).2.2 = 0) ∨ ((numR l k m).2.2 ≠ 0 ∧ e = giveUp ((numR l k m).2.2 : Int))) ∧
      Rd w' g A l.length c (numR l k m).1 0 ∧ w'.heap[b2]? = some (.cells #[.int .u64 ((numR l k m).2.1 : Int)] 98 (0, 0)) ∧ Fr2 w w' g b2 := by
  have c0 := one_cell h0
  have c1 := one_cell h1
  have gave : ∀ er, pieceS l k 0 m = .gave er → (Calls Tryz.prog 86 #[.pointer (some ⟨g, 0, none⟩), .int .i64 m] w fun e w' => e = giveUp er ∧ ∃ q, w' = w.drewN q) → Calls Tryz.prog 85 #[.pointer (some ⟨b0, 0, none⟩), .pointer (some ⟨b1, 0, none⟩), .pointer (some ⟨b2, 0, none⟩)] w fun e w' =>
      ((e = .returned (.tuple #[]) ∧ (numR l k m).2.2 = 0) ∨ ((numR l k m).2.2 ≠ 0 ∧ e = giveUp ((numR l k m).2.2 : Int))) ∧
      Rd w' g A l.length c (numR l k m).1 0 ∧ w'.heap[b2]? = some (.cells #[.int .u64 ((numR l k m).2.1 : Int)] 98 (0, 0)) ∧ Fr2 w w' g b2 := fun er he hcall => by
    have hne := pieceS_gave he
    have hR : numR l k m = (k, 0, er) := by unfold numR; rw [he]
    rw [hR]
    have HC := hide hcall
    clear hcall hR he
    go_enter Tryz.func85, Tryz.ntmps85
    go_wp2_with fail
    refine HC.out.mono ?_
    rintro e w1 ⟨rfl, q, rfl⟩
    go_wp2
    exact ⟨rfl, .inr ⟨hne, rfl⟩, h.drewN q, h2, ⟨rfl, rfl, rfl, Nat.le_refl _, fun _ _ _ _ => rfl⟩⟩
  by_cases hs : 1 ≤ m ∧ m ≤ 8
  · by_cases hf : m ≤ (l.length : Int) - k
    · obtain ⟨j, rfl⟩ : ∃ j : Nat, m = (j : Int) := ⟨m.toNat, by omega⟩
      have e : pieceS l k 0 (j : Int) = .got (numS ((l.drop k).take j)) [] j := by unfold pieceS; rw [if_pos rfl, if_pos hs, if_pos hf]; simp
      have hR : numR l k (j : Int) = (k + j, numS ((l.drop k).take j), 0) := by unfold numR; rw [e]
      rw [hR]
      have HC := hide (num_ok w g A l c k 0 h j (by omega) (by omega) hl hn (by omega) hb)
      clear hR e gave
      go_enter Tryz.func85, Tryz.ntmps85
      go_wp2_with fail
      refine HC.out.mono ?_
      rintro e w1 ⟨rfl, hR1, hg1⟩
      have h21 := (hg1.block b2 (Array.getElem?_eq_some_iff.1 h2).1 (by simp; omega)).trans h2
      have c2 := one_cell h21
      have f2 := frozen_of_row w1 b2 0 _ _ h21
      have hfin : ∀ u, Rd (w1.setCell ⟨b2, 0, none⟩ u) g A l.length c (k + j) 0 ∧ (w1.setCell ⟨b2, 0, none⟩ u).heap[b2]? = some (.cells #[u] 98 (0, 0)) ∧ Fr2 w (w1.setCell ⟨b2, 0, none⟩ u) g b2 := fun u =>
        ⟨hR1.grown (grown_set w1 b2 0 u) (by simp; omega), heap_setCell_same w1 b2 0 _ _ _ h21, ((Fr2.refl w g b2).grown hg1 (fun i e => by cases e; exact .inr (.inl rfl))).grown (grown_set w1 b2 0 u) (fun i e => by cases e; exact .inr (.inr rfl))⟩
      have HF := hide hfin
      clear hfin h21
      go_wp2
      go_end0
      exact ⟨.inl ⟨rfl, trivial⟩, HF.out _⟩
    · have e : pieceS l k 0 m = .gave 10 := by unfold pieceS; rw [if_pos rfl, if_pos hs, if_neg hf]
      exact gave 10 e (num_short w g A _ c k 0 h m hs.1 hs.2 hn hk (by omega))
  · have e : pieceS l k 0 m = .gave 1 := by unfold pieceS; rw [if_pos rfl, if_neg hs]
    exact gave 1 e (num_bad w g m hs)

/-- three variables of a call's own. -/
theorem three_vars (w : World) (a b d : Value) (s t u : TypeId) : ∃ W, W = ((w.alloc (.cells #[a] s)).alloc (.cells #[b] t)).alloc (.cells #[d] u) ∧ Below w.heap.size w W ∧ W.heap.size = w.heap.size + 3 ∧
    W.heap[w.heap.size]? = some (.cells #[a] s (0, 0)) ∧ W.heap[w.heap.size + 1]? = some (.cells #[b] t (0, 0)) ∧ W.heap[w.heap.size + 2]? = some (.cells #[d] u (0, 0)) := four_vars w a d #[b] s t u

def NumS (W : World) (g b2 : Nat) (A : Option Addr) (n c : Nat) (res : Nat × Nat × Nat) (er : Int) (w' : World) : Prop :=
  er = (res.2.2 : Int) ∧ Rd w' g A n c res.1 0 ∧ w'.heap[b2]? = some (.cells #[.int .u64 (res.2.1 : Int)] 98 (0, 0)) ∧ Fr2 W w' g b2
theorem num_stays {W w' : World} {g b2 : Nat} {A : Option Addr} {n c : Nat} {res : Nat × Nat × Nat} (h : Stays g (NumS W g b2 A n c res) w') (hgv : g ≠ b2) :
    Rd w' g A n c res.1 (res.2.2 : Int) ∧ w'.heap[b2]? = some (.cells #[.int .u64 (res.2.1 : Int)] 98 (0, 0)) ∧ Fr2 W w' g b2 := by
  rcases h with ⟨h0, hr, hv, hf⟩ | ⟨er, w1, _, ⟨he, hr, hv, hf⟩, rfl⟩
  · exact ⟨by rw [← h0]; exact hr, hv, hf⟩
  · subst he
    have hs := grown_set w1.drew g 2 (.int .i64 (res.2.2 : Int))
    have hfd : Fr2 W w1.drew g b2 := ⟨hf.os, hf.tape, hf.output, hf.size, hf.block⟩
    exact ⟨(hr.drewN 1).setE _, (Below.heap_setCell _ ⟨g, 2, none⟩ _ b2 (by show b2 ≠ g; omega)).trans hv, hfd.grown hs (fun i e => by cases e; exact .inr (.inl rfl))⟩

set_option maxHeartbeats 1000000 in
/-- Num of a Reader without an error: the number, or 0 and the error that stays. -/
theorem rnum_any (w : World) (g : Nat) (A : Option Addr) (l : List UInt8) (c k : Nat) (m : Int) (h : Rd w g A l.length c k 0) (hk : k ≤ l.length) (hl : l.length ≤ c) (hn : l.length ≤ 140737488420864) (hb : Byt w g A l) :
    Calls Tryz.prog 51 #[.pointer (some ⟨g, 0, none⟩), .int .i64 m] w fun e w' => e = .returned (.int .u64 ((numR l k m).2.1 : Int)) ∧ Rd w' g A l.length c (numR l k m).1 ((numR l k m).2.2 : Int) ∧ w.grownBy w' (some g) := by
  have hmf : ∀ (fn : Fn) (first cap : Array Value) (w : World), (Instr.makeFunc fn first cap).run Tryz.prog w = .ok (.func fn first cap) w := fun _ _ _ _ => rfl
  have hgl := h.lt
  obtain ⟨W, hW, hbW, hzW, v0, v1, v2⟩ := three_vars w (.pointer (some ⟨g, 0, none⟩)) (.int .i64 m) (.int .u64 0) 110 3 98
  have hRW : Rd W g A l.length c k 0 := h.kept (hbW.block g hgl)
  have hF := numC_any (W.alloc (.cells #[.pointer (some ⟨g, 0, none⟩)] 110)) g w.heap.size (w.heap.size + 1) (w.heap.size + 1 + 1) A l c k m (hRW.alloc _) hk hl hn
    (hb.keep (fun p hp => (World.cell?_alloc_lt W _ p (by omega)).trans (hbW.cell (by omega)))) ((Below.heap_alloc W _ _ (by omega)).trans v0) ((Below.heap_alloc W _ _ (by omega)).trans v1) ((Below.heap_alloc W _ _ (by omega)).trans v2) (by omega)
  obtain ⟨res, hres⟩ : ∃ res, res = numR l k m := ⟨_, rfl⟩
  rw [← hres] at hF ⊢
  have hcall := attempt_any W g A l.length c k 85 #[.pointer (some ⟨w.heap.size, 0, none⟩), .pointer (some ⟨w.heap.size + 1, 0, none⟩), .pointer (some ⟨w.heap.size + 1 + 1, 0, none⟩)]
    (NumS (W.alloc (.cells #[.pointer (some ⟨g, 0, none⟩)] 110)) g (w.heap.size + 1 + 1) A l.length c res) hRW (fun W => by simp [go_sem])
    (hF.mono fun e w' ⟨hc, hr, hv, hf⟩ => by
      rcases hc with ⟨rfl, h0⟩ | ⟨h0, rfl⟩
      · exact .inl ⟨rfl, by rw [h0]; rfl, hr, hv, hf⟩
      · exact .inr ⟨(res.2.2 : Int), by omega, rfl, rfl, hr, hv, hf⟩)
    (fun er w' ⟨_, hr, hv, hf⟩ => ⟨(hf.block _ (by simp) (by omega) (by omega)).trans (heap_alloc_new W _), _, hr⟩)
  have HC := hide hcall
  have HZ := hide hzW
  have hcr : W.cell? ⟨w.heap.size, 0, none⟩ = some (.pointer (some ⟨g, 0, none⟩)) := one_cell v0
  clear hF hcall hres v0 v1 v2 hzW hRW
  go_enter Tryz.func51, Tryz.ntmps51
  go_wp2_with fail
  rw [← hW]
  clear hW hcr
  refine HC.out.mono ?_
  rintro e w1 ⟨rfl, hst⟩
  obtain ⟨hrd, hbox, hfr⟩ := num_stays hst (by omega)
  have cv := one_cell hbox
  have hgrow : w.grownBy w1 (some g) := by
    have hz := HZ.out
    refine ⟨hfr.os.trans hbW.os, hfr.tape.trans hbW.tape, hfr.output.trans hbW.output, ?_, fun i hi hr => ?_⟩
    · have := hfr.size; simp at this; omega
    · exact (hfr.block i (by simp; omega) (fun e => hr (by rw [e])) (by omega)).trans ((Below.heap_alloc W _ i (by omega)).trans (hbW.block i hi))
  have HG := hide hgrow
  have HR := hide hrd
  clear hst hgrow hrd hbox hfr
  go_wp2
  go_ret
  exact ⟨rfl, HR.out, HG.out⟩
end Go.Proofs.YtihakjcccbionaaGreatDoor

end
section
/-
  The walk of the statement CursorOne: true; nothing that was there is written.
-/
namespace Go.Proofs.YtihakjcccbionaaGreatDoor
open Go.RowKit

theorem numS_bytes (N m : Nat) : ∀ j, j ≤ m → numS (numBytes N m j) = (N / 2 ^ (8 * (m - j))) % 256 ^ j
  | 0, _ => by simp [numBytes, numS, Nat.mod_one]
  | j + 1, h => by
    rw [numBytes_succ, numS_snoc, numS_bytes N m j (by omega), UInt8.toNat_ofNat']
    have e : m - j = (m - 1 - j) + 1 := by omega
    have e2 : m - (j + 1) = m - 1 - j := by omega
    rw [e, e2, Nat.mul_add, Nat.pow_add, ← Nat.div_div_eq_div_mul, Nat.pow_succ 256 j, Nat.mul_comm (256 ^ j) 256, Nat.mod_mul]
    have h8 : 2 ^ (8 * 1) = 256 := by decide
    rw [h8]
    omega
theorem numS_all {N m : Nat} (h : N < 256 ^ m) : numS (numBytes N m m) = N := by
  rw [numS_bytes N m m (Nat.le_refl _), Nat.sub_self, Nat.mul_zero, Nat.pow_zero, Nat.div_one, Nat.mod_eq_of_lt h]
theorem numR_bytes {N m : Nat} (h : N < 256 ^ m) (h1 : 1 ≤ m) (h8 : m ≤ 8) : numR (numBytes N m m) 0 (m : Int) = (m, N, 0) := by
  have hl := length_numBytes N m m
  have e : pieceS (numBytes N m m) 0 0 (m : Int) = .got (numS (((numBytes N m m).drop 0).take m)) [] m := by
    unfold pieceS
    rw [if_pos rfl, if_pos (by omega), if_pos (by rw [hl]; omega)]; simp
  unfold numR
  rw [e, List.drop_zero, List.take_of_length_le (by rw [hl]; omega), numS_all h]
  simp

end Go.Proofs.YtihakjcccbionaaGreatDoor

end
section
/-
  The walks of the document's own Reader: whether bytes can be read, a number, bytes, zeros.
-/
namespace Go.Proofs.YtihakjcccbionaaGreatDoor
open Go.RowKit
set_option maxRecDepth 100000
set_option linter.unusedVariables false

section
variable {w w' : World} {g : Nat} {A : Option Addr} {n c k : Nat} {er : Int}
end


/-- the error that a piece leaves: n bytes, that can be so many or not. -/
def fitE (er : Int) (ok : Bool) (len k : Nat) (n : Int) : Int := if er ≠ 0 then er else if ok = false then 1 else if (len : Int) - k < n then 10 else 0

/-- where a number leaves the document's own Reader, what it answers, the error. -/
def numQ (l : List UInt8) (k : Nat) (er : Int) (m : Int) : Nat × Nat × Int := if er ≠ 0 then (k, 0, er) else ((numR l k m).1, (numR l k m).2.1, ((numR l k m).2.2 : Int))
theorem numQ_no {l : List UInt8} {k : Nat} {er m : Int} (hk : k ≤ l.length) (h : fitE er (decide (1 ≤ m) && decide (m ≤ 8)) l.length k m ≠ 0) : numQ l k er m = (k, 0, fitE er (decide (1 ≤ m) && decide (m ≤ 8)) l.length k m) := by
  by_cases he : er = 0
  · subst he
    by_cases h1 : 1 ≤ m ∧ m ≤ 8
    · have hd : (decide (1 ≤ m) && decide (m ≤ 8)) = true := by simp [h1.1, h1.2]
      rw [hd] at h ⊢
      by_cases h2 : (l.length : Int) - k < m
      · have e1 : fitE 0 true l.length k m = 10 := by unfold fitE; rw [if_neg (by simp), if_neg (by simp), if_pos h2]
        have e2 : numR l k m = (k, 0, 10) := by unfold numR pieceS; rw [if_pos rfl, if_pos h1, if_neg (by omega)]
        unfold numQ
        rw [e1, e2]; rfl
      · have e1 : fitE 0 true l.length k m = 0 := by unfold fitE; rw [if_neg (by simp), if_neg (by simp), if_neg h2]
        exact absurd e1 h
    · have hd : (decide (1 ≤ m) && decide (m ≤ 8)) = false := by simp; omega
      have e2 : numR l k m = (k, 0, 1) := by unfold numR pieceS; rw [if_pos rfl, if_neg h1]
      unfold numQ
      rw [hd, e2]; rfl
  · unfold numQ fitE
    rw [if_pos he, if_pos he]
theorem numQ_yes {l : List UInt8} {k j : Nat} (hj : 1 ≤ j) (hj8 : j ≤ 8) (hk : k + j ≤ l.length) : numQ l k 0 (j : Int) = (k + j, numS ((l.drop k).take j), 0) := by
  unfold numQ
  rw [if_neg (by simp)]
  unfold numR pieceS
  rw [if_pos rfl, if_pos (by omega), if_pos (by omega)]
  simp

end Go.Proofs.YtihakjcccbionaaGreatDoor

end
section
/-
  The walks of the document's own Reader: bytes, zeros, a new one.
-/
namespace Go.Proofs.YtihakjcccbionaaGreatDoor
open Go.RowKit
set_option maxRecDepth 100000
set_option linter.unusedVariables false

/-- where bytes leave the document's own Reader, what it answers, the error. -/
def takeQ (l : List UInt8) (k : Nat) (er m : Int) : Nat × List UInt8 × Int :=
  if fitE er (decide (0 ≤ m)) l.length k m = 0 then (k + m.toNat, (l.drop k).take m.toNat, 0) else (k, [], fitE er (decide (0 ≤ m)) l.length k m)
theorem fitE_zero {er : Int} {len k : Nat} {m : Int} (h : fitE er (decide (0 ≤ m)) len k m = 0) : er = 0 ∧ 0 ≤ m ∧ m ≤ (len : Int) - k := by
  unfold fitE at h
  by_cases he : er = 0
  · rw [if_neg (by simp [he])] at h
    by_cases h1 : decide (0 ≤ m) = false
    · rw [if_pos h1] at h; exact absurd h (by decide)
    · rw [if_neg h1] at h
      by_cases h2 : (len : Int) - k < m
      · rw [if_pos h2] at h; exact absurd h (by decide)
      · simp at h1; exact ⟨he, by omega, by omega⟩
  · rw [if_pos he] at h; exact absurd h he

/-- where zeros leave the document's own Reader, the error. -/
def zeroQ (l : List UInt8) (k : Nat) (er m : Int) : Nat × Int :=
  if fitE er (decide (0 ≤ m)) l.length k m = 0 then (if ((l.drop k).take m.toNat).all (fun x => x == 0) = true then (k + m.toNat, 0) else (k, 11)) else (k, fitE er (decide (0 ≤ m)) l.length k m)

end Go.Proofs.YtihakjcccbionaaGreatDoor

end
section
/-
  The builtin append, of rows whose elements have two cells each.
-/
namespace Go.Proofs.YtihakjcccbionaaGreatDoor
open Go.RowKit
set_option maxRecDepth 100000
set_option linter.unusedVariables false
set_option linter.unusedSimpArgs false

theorem info_refval : (Tryz.prog.info? 103).map (fun i => (i.zero, i.size, i.bytes)) = some (some (.agg #[.int .u64 0, .slice none 0 0]), 2, 32) := by kernel_rfl
theorem length_itemCells (l : List VItem) : (itemCells l).length = l.length * 2 := by
  induction l with
  | nil => rfl
  | cons a l ih => rw [itemCells, List.flatMap_cons, ← itemCells, List.length_append, ih]; simp; omega
end Go.Proofs.YtihakjcccbionaaGreatDoor

end
section
/-
  The walk of the document's own Run.
-/
namespace Go.Proofs.YtihakjcccbionaaGreatDoor
open Go.RowKit
set_option maxRecDepth 100000
set_option linter.unusedVariables false

/-- the slice value vv owns, from block 'base' on, a row of things that were read, in the document's own form. -/
structure OwnW (w : World) (base : Nat) (vv : Value) (l : List VItem) : Prop where
  row : w.ownsRow base 103 2 vv l.length (itemCells l)
  each : ∀ it ∈ l, OwnB w base it.v it.b

theorem OwnW.base {w : World} {B B' : Nat} {vv : Value} {items : List VItem} (h : OwnW w B vv items) (hB : B' ≤ B) : OwnW w B' vv items := by
  refine ⟨⟨h.row.1, ?_⟩, fun it hit => (h.each it hit).base hB⟩
  rcases h.row.2 with e | ⟨g, cap, cur, e, hb, rest⟩
  · exact .inl e
  · exact .inr ⟨g, cap, cur, e, Nat.le_trans hB hb, rest⟩
theorem OwnW.drewN {w : World} {B : Nat} {vv : Value} {items : List VItem} (h : OwnW w B vv items) (k : Nat) : OwnW (w.drewN k) B vv items := ⟨h.row, h.each⟩
theorem num_piece (l : List UInt8) (k : Nat) (sz : Int) : (∃ N m, pieceS l k 0 sz = .got N [] m ∧ numQ l k 0 sz = (k + m, N, 0)) ∨ (∃ er : Nat, er ≠ 0 ∧ pieceS l k 0 sz = .gave er ∧ numQ l k 0 sz = (k, 0, (er : Int))) := by
  have e : numQ l k 0 sz = ((numR l k sz).1, (numR l k sz).2.1, ((numR l k sz).2.2 : Int)) := by unfold numQ; rw [if_neg (by simp)]
  rw [e]
  unfold numR
  rcases hp : pieceS l k 0 sz with ⟨N, b, m⟩ | er
  · have hb : b = [] := by
      unfold pieceS at hp
      rw [if_pos rfl] at hp
      repeat' split at hp
      all_goals cases hp
      rfl
    subst hb
    exact .inl ⟨N, m, rfl, rfl⟩
  · exact .inr ⟨er, pieceS_gave hp, rfl, rfl⟩
theorem take_piece (l : List UInt8) (k : Nat) (sz : Int) : (∃ m, pieceS l k 1 sz = .got 0 ((l.drop k).take m) m ∧ pieceS l k 2 sz = .got 0 [] m ∧ takeQ l k 0 sz = (k + m, (l.drop k).take m, 0)) ∨ (∃ er : Nat, er ≠ 0 ∧ pieceS l k 1 sz = .gave er ∧ pieceS l k 2 sz = .gave er ∧ takeQ l k 0 sz = (k, [], (er : Int))) := by
  unfold takeQ fitE pieceS
  by_cases h0 : sz < 0
  · refine .inr ⟨1, by decide, ?_⟩
    simp [h0, show ¬ 0 ≤ sz by omega]
  · by_cases h1 : sz ≤ (l.length : Int) - k
    · refine .inl ⟨sz.toNat, ?_⟩
      simp [h0, h1, show 0 ≤ sz by omega, show ¬ ((l.length : Int) - k < sz) by omega]
    · refine .inr ⟨10, by decide, ?_⟩
      simp [h0, h1, show 0 ≤ sz by omega, show ((l.length : Int) - k < sz) by omega]
theorem zero_piece (l : List UInt8) (k : Nat) (sz : Int) : (∃ m, pieceS l k 3 sz = .got 0 [] m ∧ zeroQ l k 0 sz = (k + m, 0)) ∨ (∃ er : Nat, er ≠ 0 ∧ pieceS l k 3 sz = .gave er ∧ zeroQ l k 0 sz = (k, (er : Int))) := by
  unfold zeroQ fitE pieceS
  by_cases h0 : sz < 0
  · refine .inr ⟨1, by decide, ?_⟩
    simp [h0, show ¬ 0 ≤ sz by omega]
  · by_cases h1 : sz ≤ (l.length : Int) - k
    · by_cases h2 : ((l.drop k).take sz.toNat).all (fun x => x == 0) = true
      · refine .inl ⟨sz.toNat, ?_⟩
        rw [if_neg (by decide), if_neg (by decide), if_neg (by decide), if_pos rfl, if_neg h0, if_pos h1, if_pos h2]
        refine ⟨rfl, ?_⟩
        rw [if_pos (by rw [if_neg (by simp), if_neg (by simp; omega), if_neg (by omega)]), if_pos h2]
      · refine .inr ⟨11, by decide, ?_⟩
        rw [if_neg (by decide), if_neg (by decide), if_neg (by decide), if_pos rfl, if_neg h0, if_pos h1, if_neg h2]
        refine ⟨rfl, ?_⟩
        rw [if_pos (by rw [if_neg (by simp), if_neg (by simp; omega), if_neg (by omega)]), if_neg h2]; rfl
    · refine .inr ⟨10, by decide, ?_⟩
      simp [h0, h1, show 0 ≤ sz by omega, show ((l.length : Int) - k < sz) by omega]
theorem rest_piece (l : List UInt8) (k : Nat) (hk : k ≤ l.length) : pieceS l k 4 0 = .got 0 (l.drop k) (l.length - k) ∧ takeQ l k 0 ((l.length : Int) - (k : Int)) = (k + (l.length - k), l.drop k, 0) := by
  constructor
  · rfl
  · unfold takeQ fitE
    have e : ((l.length : Int) - (k : Int)).toNat = l.length - k := by omega
    rw [if_pos (by simp; omega), e, List.take_of_length_le (by rw [List.length_drop]; exact Nat.le_refl _)]

theorem sw_set {wr w7 : World} {g V i : Nat} (h : wr.grownBy w7 (some g)) (hV : wr.heap.size ≤ V) (u : Value) : wr.grownBy (w7.setCell ⟨V, i, none⟩ u) (some g) :=
  ⟨h.os, h.tape, h.output, by simpa using h.size, fun n hn hr => (Below.heap_setCell w7 ⟨V, i, none⟩ u n (by show n ≠ V; omega)).trans (h.block n hn hr)⟩
theorem sw_own {w7 : World} {B V i : Nat} {v u : Value} {b : List UInt8} (h : OwnB w7 B v b) (hV : V < B) : OwnB (w7.setCell ⟨V, i, none⟩ u) B v b := h.kept (grown_set w7 V i u) (by
  rcases h.2 with ⟨e, _⟩ | ⟨g', cap, cur, e, hbg, _⟩
  · exact .inl (by rw [e]; rfl)
  · exact .inr (by rw [e]; simp [Value.ownBlock]; omega))

end Go.Proofs.YtihakjcccbionaaGreatDoor

end
section
/-
  The walks of a Reader's Take, Skip and Zero, of Num behind an error, of At; and of all of them where there is no Reader.
-/
namespace Go.Proofs.YtihakjcccbionaaGreatDoor
open Go.RowKit
set_option maxRecDepth 100000
set_option linter.unusedVariables false

theorem take_cases (l : List UInt8) (k : Nat) (m : Int) : (∃ j : Nat, m = (j : Int) ∧ (j : Int) ≤ (l.length : Int) - k ∧ takeQ l k 0 m = (k + j, (l.drop k).take j, 0)) ∨ (m < 0 ∧ takeQ l k 0 m = (k, [], 1)) ∨ (0 ≤ m ∧ (l.length : Int) - k < m ∧ takeQ l k 0 m = (k, [], 10)) := by
  unfold takeQ fitE
  by_cases h0 : m < 0
  · refine .inr (.inl ⟨h0, ?_⟩)
    simp [show ¬ 0 ≤ m by omega]
  · by_cases h1 : m ≤ (l.length : Int) - k
    · refine .inl ⟨m.toNat, by omega, by omega, ?_⟩
      simp [show 0 ≤ m by omega, show ¬ ((l.length : Int) - k < m) by omega]
    · refine .inr (.inr ⟨by omega, by omega, ?_⟩)
      simp [show 0 ≤ m by omega, show ((l.length : Int) - k < m) by omega]
theorem zero_cases (l : List UInt8) (k : Nat) (m : Int) : (∃ j : Nat, m = (j : Int) ∧ (j : Int) ≤ (l.length : Int) - k ∧ zeroQ l k 0 m = if ((l.drop k).take j).all (fun x => x == 0) = true then (k + j, 0) else (k, 11)) ∨ (m < 0 ∧ zeroQ l k 0 m = (k, 1)) ∨ (0 ≤ m ∧ (l.length : Int) - k < m ∧ zeroQ l k 0 m = (k, 10)) := by
  unfold zeroQ fitE
  by_cases h0 : m < 0
  · refine .inr (.inl ⟨h0, ?_⟩)
    simp [show ¬ 0 ≤ m by omega]
  · by_cases h1 : m ≤ (l.length : Int) - k
    · refine .inl ⟨m.toNat, by omega, by omega, ?_⟩
      simp [show 0 ≤ m by omega, show ¬ ((l.length : Int) - k < m) by omega]
    · refine .inr (.inr ⟨by omega, by omega, ?_⟩)
      simp [show 0 ≤ m by omega, show ((l.length : Int) - k < m) by omega]

/-- what the closure of Take leaves. -/
def TakS (W : World) (g b2 : Nat) (A : Option Addr) (n c : Nat) (res : Nat × List UInt8 × Int) (er : Int) (w' : World) : Prop :=
  er = res.2.2 ∧ Rd w' g A n c res.1 0 ∧ (∃ v, w'.heap[b2]? = some (.cells #[v] 28 (0, 0)) ∧ OwnB w' W.heap.size v res.2.1) ∧ Fr2 W w' g b2
theorem tak_stays {W w' : World} {g b2 : Nat} {A : Option Addr} {n c : Nat} {res : Nat × List UInt8 × Int} (h : Stays g (TakS W g b2 A n c res) w') (hgv : g ≠ b2) :
    Rd w' g A n c res.1 res.2.2 ∧ (∃ v, w'.heap[b2]? = some (.cells #[v] 28 (0, 0)) ∧ OwnB w' W.heap.size v res.2.1) ∧ Fr2 W w' g b2 := by
  rcases h with ⟨h0, hr, hv, hf⟩ | ⟨er, w1, _, ⟨he, hr, ⟨v, hv, ho⟩, hf⟩, rfl⟩
  · exact ⟨by rw [← h0]; exact hr, hv, hf⟩
  · subst he
    have hs := grown_set w1.drew g 2 (.int .i64 res.2.2)
    have hfd : Fr2 W w1.drew g b2 := ⟨hf.os, hf.tape, hf.output, hf.size, hf.block⟩
    exact ⟨(hr.drewN 1).setE _, ⟨v, (Below.heap_setCell _ ⟨g, 2, none⟩ _ b2 (by show b2 ≠ g; omega)).trans hv, (ho.drewN 1).kept hs (own_ne ho (hr.drewN 1).blk (by decide))⟩, hfd.grown hs (fun i e => by cases e; exact .inr (.inl rfl))⟩

set_option maxHeartbeats 1000000 in
theorem takC_any (w : World) (g b0 b1 b2 : Nat) (A : Option Addr) (l : List UInt8) (c k : Nat) (m : Int) (h : Rd w g A l.length c k 0) (hk : k ≤ l.length) (hl : l.length ≤ c) (hn : l.length ≤ 140737488420864) (hb : Byt w g A l)
    (h0 : w.heap[b0]? = some (.cells #[.pointer (some ⟨g, 0, none⟩)] 110 (0, 0))) (h1 : w.heap[b1]? = some (.cells #[.int .i64 m] 3 (0, 0))) (h2 : w.heap[b2]? = some (.cells #[.slice none 0 0] 28 (0, 0))) (hgb : g ≠ b2) :
    Calls Tryz.prog 87 #[.pointer (some ⟨b0, 0, none⟩), .pointer (some ⟨b1, 0, none⟩), .pointer (some ⟨b2, 0, none⟩)] w fun e w' =>
      (e = .returned (.tuple #[]) ∧ TakS w g b2 A l.length c (takeQ l k 0 m) 0 w') ∨ ∃ er, er ≠ 0 ∧ e = giveUp er ∧ TakS w g b2 A l.length c (takeQ l k 0 m) er w' := by
  have c0 := one_cell h0
  have c1 := one_cell h1
  rcases take_cases l k m with ⟨j, rfl, hj, hT⟩ | ⟨hm, hT⟩ | ⟨hm, hs, hT⟩
  · rw [hT]
    have HC := hide (take_ok w g A l c k 0 h j hl hn (by omega) hb)
    have HL2 : Hid (b2 < w.heap.size) := hide (Array.getElem?_eq_some_iff.1 h2).1
    clear hT
    go_enter Tryz.func87, Tryz.ntmps87
    go_wp2_with fail
    refine HC.out.mono ?_
    rintro e w1 ⟨⟨v, rfl, hO1⟩, hR1, hg1⟩
    obtain ⟨Av, cv, rfl, -⟩ := hO1.shape
    have h21 := (hg1.block b2 HL2.out (by simp; omega)).trans h2
    have c2 := one_cell h21
    have f2 := frozen_of_row w1 b2 0 _ _ h21
    have hfin : ∀ u, Rd (w1.setCell ⟨b2, 0, none⟩ u) g A l.length c (k + j) 0 ∧ (w1.setCell ⟨b2, 0, none⟩ u).heap[b2]? = some (.cells #[u] 28 (0, 0)) ∧ Fr2 w (w1.setCell ⟨b2, 0, none⟩ u) g b2 := fun u =>
      ⟨hR1.grown (grown_set w1 b2 0 u) (by simp; omega), heap_setCell_same w1 b2 0 _ _ _ h21, ((Fr2.refl w g b2).grown hg1 (fun i e => by cases e; exact .inr (.inl rfl))).grown (grown_set w1 b2 0 u) (fun i e => by cases e; exact .inr (.inr rfl))⟩
    have hO2 : ∀ u, OwnB (w1.setCell ⟨b2, 0, none⟩ u) w.heap.size (.slice Av ((l.drop k).take j).length cv) ((l.drop k).take j) := fun u => hO1.kept (grown_set w1 b2 0 u) (by
      rcases hO1.2 with ⟨e, _⟩ | ⟨g', cap, cur, e, hbg, _⟩
      · exact .inl (by rw [e]; rfl)
      · exact .inr (by have := HL2.out; rw [e]; simp [Value.ownBlock]; omega))
    have HF := hide hfin
    have HO := hide hO2
    obtain ⟨L, hL⟩ : ∃ L, L = ((l.drop k).take j).length := ⟨_, rfl⟩
    rw [← hL]
    have HLL := hide hL
    clear hfin h21 hO2 hO1 hR1 hg1 hL
    go_wp2
    go_end0
    obtain ⟨a1, a2, a3⟩ := HF.out (.slice Av L cv)
    exact .inl ⟨rfl, rfl, a1, ⟨_, a2, by have := HO.out (.slice Av L cv); rwa [← HLL.out] at this⟩, a3⟩
  · rw [hT]
    have HC := hide (take_neg w g m hm)
    clear hT
    go_enter Tryz.func87, Tryz.ntmps87
    go_wp2_with fail
    refine HC.out.mono ?_
    rintro e w1 ⟨rfl, q, rfl⟩
    go_wp2
    exact ⟨rfl, .inr ⟨1, by decide, rfl, rfl, h.drewN q, ⟨_, h2, OwnB.nil _ _⟩, ⟨rfl, rfl, rfl, Nat.le_refl _, fun _ _ _ _ => rfl⟩⟩⟩
  · rw [hT]
    have HC := hide (take_short w g A _ c k 0 h m hm hn hk hs)
    clear hT
    go_enter Tryz.func87, Tryz.ntmps87
    go_wp2_with fail
    refine HC.out.mono ?_
    rintro e w1 ⟨rfl, q, rfl⟩
    go_wp2
    exact ⟨rfl, .inr ⟨10, by decide, rfl, rfl, h.drewN q, ⟨_, h2, OwnB.nil _ _⟩, ⟨rfl, rfl, rfl, Nat.le_refl _, fun _ _ _ _ => rfl⟩⟩⟩

set_option maxHeartbeats 1000000 in
/-- Take of a Reader without an error: the bytes, or none and the error that stays. -/
theorem rtake_any (w : World) (g : Nat) (A : Option Addr) (l : List UInt8) (c k : Nat) (m : Int) (h : Rd w g A l.length c k 0) (hk : k ≤ l.length) (hl : l.length ≤ c) (hn : l.length ≤ 140737488420864) (hb : Byt w g A l) :
    Calls Tryz.prog 53 #[.pointer (some ⟨g, 0, none⟩), .int .i64 m] w fun e w' => (∃ v, e = .returned v ∧ OwnB w' w.heap.size v (takeQ l k 0 m).2.1) ∧ Rd w' g A l.length c (takeQ l k 0 m).1 (takeQ l k 0 m).2.2 ∧ w.grownBy w' (some g) := by
  have hmf : ∀ (fn : Fn) (first cap : Array Value) (w : World), (Instr.makeFunc fn first cap).run Tryz.prog w = .ok (.func fn first cap) w := fun _ _ _ _ => rfl
  have hgl := h.lt
  obtain ⟨W, hW, hbW, hzW, v0, v1, v2⟩ := three_vars w (.pointer (some ⟨g, 0, none⟩)) (.int .i64 m) (.slice none 0 0) 110 3 28
  have hRW : Rd W g A l.length c k 0 := h.kept (hbW.block g hgl)
  have hF := takC_any (W.alloc (.cells #[.pointer (some ⟨g, 0, none⟩)] 110)) g w.heap.size (w.heap.size + 1) (w.heap.size + 1 + 1) A l c k m (hRW.alloc _) hk hl hn
    (hb.keep (fun p hp => (World.cell?_alloc_lt W _ p (by omega)).trans (hbW.cell (by omega)))) ((Below.heap_alloc W _ _ (by omega)).trans v0) ((Below.heap_alloc W _ _ (by omega)).trans v1) ((Below.heap_alloc W _ _ (by omega)).trans v2) (by omega)
  obtain ⟨res, hres⟩ : ∃ res, res = takeQ l k 0 m := ⟨_, rfl⟩
  rw [← hres] at hF ⊢
  have hcall := attempt_any W g A l.length c k 87 #[.pointer (some ⟨w.heap.size, 0, none⟩), .pointer (some ⟨w.heap.size + 1, 0, none⟩), .pointer (some ⟨w.heap.size + 1 + 1, 0, none⟩)]
    (TakS (W.alloc (.cells #[.pointer (some ⟨g, 0, none⟩)] 110)) g (w.heap.size + 1 + 1) A l.length c res) hRW (fun W => by simp [go_sem])
    hF
    (fun er w' ⟨_, hr, _, hf⟩ => ⟨(hf.block _ (by simp) (by omega) (by omega)).trans (heap_alloc_new W _), _, hr⟩)
  have HC := hide hcall
  have HZ := hide hzW
  have hcr : W.cell? ⟨w.heap.size, 0, none⟩ = some (.pointer (some ⟨g, 0, none⟩)) := one_cell v0
  clear hF hcall hres v0 v1 v2 hzW hRW
  go_enter Tryz.func53, Tryz.ntmps53
  go_wp2_with fail
  rw [← hW]
  clear hW hcr
  refine HC.out.mono ?_
  rintro e w1 ⟨rfl, hst⟩
  obtain ⟨hrd, ⟨v, hbox, hown⟩, hfr⟩ := tak_stays hst (by omega)
  have cv := one_cell hbox
  have hgrow : w.grownBy w1 (some g) := by
    have hz := HZ.out
    refine ⟨hfr.os.trans hbW.os, hfr.tape.trans hbW.tape, hfr.output.trans hbW.output, ?_, fun i hi hr => ?_⟩
    · have := hfr.size; simp at this; omega
    · exact (hfr.block i (by simp; omega) (fun e => hr (by rw [e])) (by omega)).trans ((Below.heap_alloc W _ i (by omega)).trans (hbW.block i hi))
  have hO := hown.base (B' := w.heap.size) (by have := HZ.out; simp; omega)
  obtain ⟨Av, ccv, rfl, -⟩ := hO.shape
  have HG := hide hgrow
  have HR := hide hrd
  have HO := hide hO
  clear hst hgrow hrd hbox hfr hown hO
  go_wp2
  go_ret
  exact ⟨⟨_, rfl, HO.out⟩, HR.out, HG.out⟩
end Go.Proofs.YtihakjcccbionaaGreatDoor

end
section
/-
  The walks of a Reader's Skip and Zero.
-/
namespace Go.Proofs.YtihakjcccbionaaGreatDoor
open Go.RowKit
set_option maxRecDepth 100000
set_option linter.unusedVariables false

/-- where bytes that are passed over leave a Reader, the error. -/
def skipQ (l : List UInt8) (k : Nat) (er m : Int) : Nat × Int := ((takeQ l k er m).1, (takeQ l k er m).2.2)
theorem two_boxes (w : World) (a b : Value) (s t : TypeId) : ∃ W, W = (w.alloc (.cells #[a] s)).alloc (.cells #[b] t) ∧ Below w.heap.size w W ∧ W.heap.size = w.heap.size + 2 ∧ W.heap[w.heap.size]? = some (.cells #[a] s (0, 0)) ∧ W.heap[w.heap.size + 1]? = some (.cells #[b] t (0, 0)) := by
  have h0 := heap_alloc_new w (.cells #[a] s)
  have h1 := heap_alloc_new (w.alloc (.cells #[a] s)) (.cells #[b] t)
  refine ⟨_, rfl, ((Below.refl _ _).alloc (Nat.le_refl _) _).alloc (by simp) _, by simp, ?_, by simpa using h1⟩
  rw [Below.heap_alloc _ _ _ (by simp)]; exact h0
/-- what the closures of Skip and Zero leave. -/
def SkpS (W : World) (g : Nat) (A : Option Addr) (n c : Nat) (res : Nat × Int) (er : Int) (w' : World) : Prop :=
  er = res.2 ∧ Rd w' g A n c res.1 0 ∧ Fr2 W w' g g
theorem skp_stays {W w' : World} {g : Nat} {A : Option Addr} {n c : Nat} {res : Nat × Int} (h : Stays g (SkpS W g A n c res) w') : Rd w' g A n c res.1 res.2 ∧ Fr2 W w' g g := by
  rcases h with ⟨h0, hr, hf⟩ | ⟨er, w1, _, ⟨he, hr, hf⟩, rfl⟩
  · exact ⟨by rw [← h0]; exact hr, hf⟩
  · subst he
    have hs := grown_set w1.drew g 2 (.int .i64 res.2)
    have hfd : Fr2 W w1.drew g g := ⟨hf.os, hf.tape, hf.output, hf.size, hf.block⟩
    exact ⟨(hr.drewN 1).setE _, hfd.grown hs (fun i e => by cases e; exact .inr (.inl rfl))⟩

end Go.Proofs.YtihakjcccbionaaGreatDoor

end
section
/-
  The walks of a Reader's methods behind an error, and where there is no Reader.
-/
namespace Go.Proofs.YtihakjcccbionaaGreatDoor
open Go.RowKit
set_option maxRecDepth 100000
set_option linter.unusedVariables false

set_option maxHeartbeats 1000000 in
theorem err_nil (w : World) : Calls Tryz.prog 52 #[.pointer none] w fun e w' => e = .returned (.int .i64 2) ∧ w = w' := by
  go_enter Tryz.func52, Tryz.ntmps52
  go_wp2
  go_ret
  exact ⟨rfl, rfl⟩
set_option maxHeartbeats 1000000 in
theorem left_nil (w : World) : Calls Tryz.prog 56 #[.pointer none] w fun e w' => e = .returned (.int .i64 0) ∧ w = w' := by
  go_enter Tryz.func56, Tryz.ntmps56
  go_wp2
  go_ret
  exact ⟨rfl, rfl⟩
set_option maxHeartbeats 1000000 in
theorem end_nil (w : World) : Calls Tryz.prog 89 #[.pointer none] w fun e w' => e = .returned (.int .i64 2) ∧ w = w' := by
  go_enter Tryz.func89, Tryz.ntmps89
  go_wp2_with fail
  refine (err_nil _).mono ?_
  rintro e w1 ⟨rfl, rfl⟩
  go_wp2
  go_ret
  exact ⟨rfl, rfl⟩
set_option maxHeartbeats 1000000 in
theorem attempt_err (w : World) (P : Option Addr) (er : Int) (F : Value) (he : er ≠ 0) (hE : ∀ W, Below w.heap.size w W → Calls Tryz.prog 52 #[.pointer P] W fun e w' => e = .returned (.int .i64 er) ∧ W = w') :
    Calls Tryz.prog 84 #[.pointer P, F] w fun e w' => e = .returned (.tuple #[]) ∧ Below w.heap.size w w' := by
  have hei : (er != 0) = true := by simpa using he
  have hbw : Below w.heap.size w (w.alloc (.cells #[.pointer P] 110)) := (Below.refl _ _).alloc (Nat.le_refl _) _
  have HBW := hide hbw
  have HE := hide (hE _ hbw)
  clear hE hbw
  go_enter_defers Tryz.func84, Tryz.ntmps84
  go_wp2_with fail
  refine HE.out.mono ?_
  rintro e w1 ⟨rfl, rfl⟩
  go_wp2
  exact ⟨.tuple #[], by simp [results, Tryz.results84], rfl, HBW.out⟩

/-- a Reader that has an error, or is none: in whatever world of new blocks its Err answers er. -/
def ErrIs (w : World) (P : Option Addr) (er : Int) : Prop := er ≠ 0 ∧ ∀ W, Below w.heap.size w W → Calls Tryz.prog 52 #[.pointer P] W fun e w' => e = .returned (.int .i64 er) ∧ W = w'
theorem ErrIs.rd {w : World} {g : Nat} {A : Option Addr} {n c k : Nat} {er : Int} (h : Rd w g A n c k er) (he : er ≠ 0) : ErrIs w (some ⟨g, 0, none⟩) er := ⟨he, fun W hb => err_any W g A n c k er (h.kept (hb.block g h.lt))⟩
theorem ErrIs.nil (w : World) : ErrIs w none 2 := ⟨by decide, fun W _ => err_nil W⟩
theorem ErrIs.attempt {w W : World} {P : Option Addr} {er : Int} (h : ErrIs w P er) (F : Value) (hb : Below w.heap.size w W) : Calls Tryz.prog 84 #[.pointer P, F] W fun e w' => e = .returned (.tuple #[]) ∧ Below W.heap.size W w' :=
  attempt_err W P er F h.1 (fun W' hb' => h.2 W' (hb.trans (hb'.mono hb.size)))

set_option maxHeartbeats 1000000 in
theorem rnum_err (w : World) (P : Option Addr) (er m : Int) (h : ErrIs w P er) :
    Calls Tryz.prog 51 #[.pointer P, .int .i64 m] w fun e w' => e = .returned (.int .u64 0) ∧ Below w.heap.size w w' := by
  have hmf : ∀ (fn : Fn) (first cap : Array Value) (w : World), (Instr.makeFunc fn first cap).run Tryz.prog w = .ok (.func fn first cap) w := fun _ _ _ _ => rfl
  obtain ⟨W, hW, hbW, hzW, v0, v1, v2⟩ := three_vars w (.pointer P) (.int .i64 m) (.int .u64 0) 110 3 98
  have HAT := hide (fun F => h.attempt F hbW)
  have hcr : W.cell? ⟨w.heap.size, 0, none⟩ = some (.pointer P) := one_cell v0
  have HBW := hide hbW
  have HZ := hide hzW
  clear h hcr
  go_enter Tryz.func51, Tryz.ntmps51
  go_wp2_with fail
  rw [← hW]
  clear hW
  refine (HAT.out _).mono ?_
  rintro e w1 ⟨rfl, hb1⟩
  have HB := hide (HBW.out.trans (hb1.mono HBW.out.size))
  have hv2 := (hb1.block (w.heap.size + 2) (by omega)).trans v2
  have cv : w1.cell? ⟨w.heap.size + 1 + 1, 0, none⟩ = some (.int .u64 0) := one_cell hv2
  clear hb1
  go_wp2
  go_ret
  exact ⟨rfl, HB.out⟩

set_option maxHeartbeats 1000000 in
theorem rtake_err (w : World) (P : Option Addr) (er m : Int) (h : ErrIs w P er) :
    Calls Tryz.prog 53 #[.pointer P, .int .i64 m] w fun e w' => e = .returned (.slice none 0 0) ∧ Below w.heap.size w w' := by
  have hmf : ∀ (fn : Fn) (first cap : Array Value) (w : World), (Instr.makeFunc fn first cap).run Tryz.prog w = .ok (.func fn first cap) w := fun _ _ _ _ => rfl
  obtain ⟨W, hW, hbW, hzW, v0, v1, v2⟩ := three_vars w (.pointer P) (.int .i64 m) (.slice none 0 0) 110 3 28
  have HAT := hide (fun F => h.attempt F hbW)
  have hcr : W.cell? ⟨w.heap.size, 0, none⟩ = some (.pointer P) := one_cell v0
  have HBW := hide hbW
  have HZ := hide hzW
  clear h hcr
  go_enter Tryz.func53, Tryz.ntmps53
  go_wp2_with fail
  rw [← hW]
  clear hW
  refine (HAT.out _).mono ?_
  rintro e w1 ⟨rfl, hb1⟩
  have HB := hide (HBW.out.trans (hb1.mono HBW.out.size))
  have hv2 := (hb1.block (w.heap.size + 2) (by omega)).trans v2
  have cv : w1.cell? ⟨w.heap.size + 1 + 1, 0, none⟩ = some (.slice none 0 0) := one_cell hv2
  clear hb1
  go_wp2
  go_ret
  exact ⟨rfl, HB.out⟩

end Go.Proofs.YtihakjcccbionaaGreatDoor

end
section
/-
  What a Reader's methods answer, whether an error stays or not; two Readers side by side, the program's and the document's own.
-/
namespace Go.Proofs.YtihakjcccbionaaGreatDoor
open Go.RowKit
set_option maxRecDepth 100000
set_option linter.unusedVariables false

theorem numQ_zero (l : List UInt8) (k : Nat) (m : Int) : numQ l k 0 m = ((numR l k m).1, (numR l k m).2.1, ((numR l k m).2.2 : Int)) := by unfold numQ; rw [if_neg (by simp)]
theorem numQ_err {l : List UInt8} {k : Nat} {er m : Int} (h : er ≠ 0) : numQ l k er m = (k, 0, er) := by unfold numQ; rw [if_pos h]
theorem fitE_err {er : Int} {ok : Bool} {len k : Nat} {m : Int} (h : er ≠ 0) : fitE er ok len k m = er := by unfold fitE; rw [if_pos h]
theorem takeQ_err {l : List UInt8} {k : Nat} {er m : Int} (h : er ≠ 0) : takeQ l k er m = (k, [], er) := by unfold takeQ; rw [fitE_err h, if_neg h]
theorem zeroQ_err {l : List UInt8} {k : Nat} {er m : Int} (h : er ≠ 0) : zeroQ l k er m = (k, er) := by unfold zeroQ; rw [fitE_err h, if_neg h]
theorem skipQ_err {l : List UInt8} {k : Nat} {er m : Int} (h : er ≠ 0) : skipQ l k er m = (k, er) := by unfold skipQ; rw [takeQ_err h]
theorem numQ_le {l : List UInt8} {k : Nat} {er m : Int} (hk : k ≤ l.length) : (numQ l k er m).1 ≤ l.length := by
  by_cases h : er = 0
  · subst h
    rcases num_piece l k m with ⟨N, j, hp, e⟩ | ⟨er, _, _, e⟩
    · rw [e]; exact pieceS_le hp hk
    · rw [e]; exact hk
  · rw [numQ_err h]; exact hk
theorem takeQ_le {l : List UInt8} {k : Nat} {er m : Int} (hk : k ≤ l.length) : (takeQ l k er m).1 ≤ l.length := by
  by_cases h : er = 0
  · subst h
    rcases take_cases l k m with ⟨j, rfl, hj, e⟩ | ⟨_, e⟩ | ⟨_, _, e⟩
    · rw [e]; show k + j ≤ _; omega
    · rw [e]; exact hk
    · rw [e]; exact hk
  · rw [takeQ_err h]; exact hk
theorem zeroQ_le {l : List UInt8} {k : Nat} {er m : Int} (hk : k ≤ l.length) : (zeroQ l k er m).1 ≤ l.length := by
  by_cases h : er = 0
  · subst h
    rcases zero_cases l k m with ⟨j, rfl, hj, e⟩ | ⟨_, e⟩ | ⟨_, _, e⟩
    · rw [e]; split
      · show k + j ≤ _; omega
      · exact hk
    · rw [e]; exact hk
    · rw [e]; exact hk
  · rw [zeroQ_err h]; exact hk

/-- the program's Reader at block g, of the bytes l. -/
structure RdS (g : Nat) (A : Option Addr) (l : List UInt8) (c : Nat) (w : World) (k : Nat) (er : Int) : Prop where
  rd : Rd w g A l.length c k er
  by' : Byt w g A l
  le : k ≤ l.length
theorem RdS.keep {g g2 : Nat} {A : Option Addr} {l : List UInt8} {c k : Nat} {er : Int} {w w' : World} (h : RdS g A l c w k er) (hg : w.grownBy w' (some g2)) (hlt : g < g2) : RdS g A l c w' k er :=
  ⟨h.rd.grown hg (by simp; omega), fun hl => by
    obtain ⟨b, off, e, hb, hc⟩ := h.by' hl
    exact ⟨b, off, e, hb, fun i hi => hg.cell (hc i hi) (by simp; omega)⟩, h.le⟩
theorem RdS.below {g : Nat} {A : Option Addr} {l : List UInt8} {c k : Nat} {er : Int} {w w' : World} (h : RdS g A l c w k er) (hb : Below w.heap.size w w') : RdS g A l c w' k er :=
  ⟨h.rd.kept (hb.block g h.rd.lt), h.by'.below (hb.mono (Nat.le_of_lt h.rd.lt)), h.le⟩
section
variable {g g2 B c k : Nat} {A : Option Addr} {l : List UInt8} {er : Int}
theorem numU (W : World) (m : Int) (h : RdS g A l c W k er) (hl : l.length ≤ c) (hn : l.length ≤ 140737488420864) : Calls Tryz.prog 51 #[.pointer (some ⟨g, 0, none⟩), .int .i64 m] W fun e w' => e = .returned (.int .u64 ((numQ l k er m).2.1 : Int)) ∧ RdS g A l c w' (numQ l k er m).1 (numQ l k er m).2.2 ∧ W.grownBy w' (some g) := by
  by_cases he : er = 0
  · subst he
    rw [numQ_zero]
    refine (rnum_any W g A l c k m h.rd h.le hl hn h.by').mono fun e w' ⟨h1, h2, h3⟩ => ⟨h1, ⟨h2, h.by'.row h3, ?_⟩, h3⟩
    have := numQ_le (er := 0) (m := m) h.le
    rwa [numQ_zero] at this
  · rw [numQ_err he]
    exact (rnum_err W _ er m (ErrIs.rd h.rd he)).mono fun e w' ⟨h1, h2⟩ => ⟨h1, h.below h2, Below.row h2 _⟩
theorem takeU (W : World) (m : Int) (h : RdS g A l c W k er) (hl : l.length ≤ c) (hn : l.length ≤ 140737488420864) : Calls Tryz.prog 53 #[.pointer (some ⟨g, 0, none⟩), .int .i64 m] W fun e w' => (∃ v, e = .returned v ∧ OwnB w' W.heap.size v (takeQ l k er m).2.1) ∧ RdS g A l c w' (takeQ l k er m).1 (takeQ l k er m).2.2 ∧ W.grownBy w' (some g) := by
  by_cases he : er = 0
  · subst he
    exact (rtake_any W g A l c k m h.rd h.le hl hn h.by').mono fun e w' ⟨h1, h2, h3⟩ => ⟨h1, ⟨h2, h.by'.row h3, takeQ_le h.le⟩, h3⟩
  · rw [takeQ_err he]
    exact (rtake_err W _ er m (ErrIs.rd h.rd he)).mono fun e w' ⟨h1, h2⟩ => ⟨⟨_, h1, OwnB.nil _ _⟩, h.below h2, Below.row h2 _⟩
end

set_option maxHeartbeats 1000000 in
theorem newS (w : World) (B : Nat) (A : Option Addr) (l : List UInt8) (c : Nat) (hn : l.length ≤ 140737488420864) (hb : Byt w B A l) (hB : B ≤ w.heap.size) :
    Calls Tryz.prog 50 #[.slice A l.length c] w fun e w' => ∃ g A' c', e = .returned (.pointer (some ⟨g, 0, none⟩)) ∧ RdS g A' l c' w' 0 0 ∧ l.length ≤ c' ∧ (∀ a, A' = some a → w.heap.size ≤ a.block) ∧ w.heap.size ≤ g ∧ Below w.heap.size w w' := by
  go_enter Tryz.func50, Tryz.ntmps50
  go_wp2_with fail
  refine (clone_any w B A l c hn hb hB).mono ?_
  rintro e w1 ⟨v, rfl, hown, hb1⟩
  obtain ⟨A', c', rfl, hl', hby, _, hat⟩ := hown.shape
  go_wp2
  go_ret
  exact ⟨w1.heap.size, A', c', rfl, ⟨⟨heap_alloc_new w1 _⟩, hby.keep (fun p hp => World.cell?_alloc_lt w1 _ p hp), Nat.zero_le _⟩, hl', fun a e => (hat a e).1, hb1.size, hb1.alloc hb1.size _⟩
end Go.Proofs.YtihakjcccbionaaGreatDoor

end
section
/-
  A Reader asked for one thing behind the other: where it stands, whether all that was asked for was there.
-/
namespace Go.Proofs.YtihakjcccbionaaGreatDoor
open Go.RowKit
set_option maxRecDepth 100000
set_option linter.unusedVariables false
set_option linter.unusedSimpArgs false

/-- K bytes were asked for: all were there, or the error of too few is kept. -/
def RdI (l : List UInt8) (K k : Nat) (er : Int) : Prop := (er = 0 ∧ k = K ∧ K ≤ l.length) ∨ (er = 10 ∧ l.length < K)
theorem numQ_inv {l : List UInt8} {K k m : Nat} {er : Int} (h : RdI l K k er) (h1 : 1 ≤ m) (h8 : m ≤ 8) : RdI l (K + m) (numQ l k er (m : Int)).1 (numQ l k er (m : Int)).2.2 ∧ (K + m ≤ l.length → (numQ l k er (m : Int)).2.1 = numS ((l.drop K).take m)) ∧ (l.length < K + m → (numQ l k er (m : Int)).2.1 = 0) := by
  rcases h with ⟨rfl, rfl, hk⟩ | ⟨rfl, hk⟩
  · rw [numQ_zero]
    unfold numR pieceS
    rw [if_pos rfl, if_pos (by omega)]
    by_cases hm : k + m ≤ l.length
    · rw [if_pos (by omega)]
      exact ⟨.inl ⟨rfl, by simp, hm⟩, fun _ => by simp, fun h => by omega⟩
    · rw [if_neg (by omega)]
      exact ⟨.inr ⟨rfl, by omega⟩, fun h => absurd h hm, fun _ => rfl⟩
  · rw [numQ_err (by decide)]
    exact ⟨.inr ⟨rfl, by omega⟩, fun h => by omega, fun _ => rfl⟩
theorem takeQ_inv {l : List UInt8} {K k m : Nat} {er : Int} (h : RdI l K k er) : RdI l (K + m) (takeQ l k er (m : Int)).1 (takeQ l k er (m : Int)).2.2 ∧ (K + m ≤ l.length → (takeQ l k er (m : Int)).2.1 = (l.drop K).take m) ∧ (l.length < K + m → (takeQ l k er (m : Int)).2.1 = []) := by
  rcases h with ⟨rfl, rfl, hk⟩ | ⟨rfl, hk⟩
  · unfold takeQ fitE
    by_cases hm : k + m ≤ l.length
    · rw [if_pos (by simp; omega)]
      exact ⟨.inl ⟨rfl, by simp, hm⟩, fun _ => by simp, fun h => by omega⟩
    · have e : (if (0 : Int) ≠ 0 then (0 : Int) else if decide (0 ≤ (m : Int)) = false then 1 else if (l.length : Int) - k < (m : Int) then 10 else 0) = 10 := by
        rw [if_neg (by simp), if_neg (by simp), if_pos (by omega)]
      rw [e, if_neg (by decide)]
      exact ⟨.inr ⟨rfl, by omega⟩, fun h => absurd h hm, fun _ => rfl⟩
  · rw [takeQ_err (by decide)]
    exact ⟨.inr ⟨rfl, by omega⟩, fun h => by omega, fun _ => rfl⟩
section
variable {g c k K : Nat} {A : Option Addr} {l : List UInt8} {er : Int}
theorem numI (W : World) (m : Nat) (h : RdS g A l c W k er) (i : RdI l K k er) (h1 : 1 ≤ m) (h8 : m ≤ 8) (hl : l.length ≤ c) (hn : l.length ≤ 140737488420864) : Calls Tryz.prog 51 #[.pointer (some ⟨g, 0, none⟩), .int .i64 (m : Int)] W fun e w' =>
    ∃ N k' er', e = .returned (.int .u64 ((N : Nat) : Int)) ∧ RdS g A l c w' k' er' ∧ RdI l (K + m) k' er' ∧ N < 256 ^ m ∧ (K + m ≤ l.length → N = numS ((l.drop K).take m)) ∧ W.grownBy w' (some g) := by
  obtain ⟨a, b, b0⟩ := numQ_inv i h1 h8
  refine (numU W (m : Int) h hl hn).mono fun e w' ⟨e1, e2, e3⟩ => ⟨_, _, _, e1, e2, a, ?_, b, e3⟩
  by_cases hm : K + m ≤ l.length
  · rw [b hm]
    have := numS_lt ((l.drop K).take m)
    rwa [show ((l.drop K).take m).length = m by simp; omega] at this
  · rw [b0 (by omega)]; exact Nat.pow_pos (by decide)
theorem takeI (W : World) (m : Nat) (h : RdS g A l c W k er) (i : RdI l K k er) (hl : l.length ≤ c) (hn : l.length ≤ 140737488420864) : Calls Tryz.prog 53 #[.pointer (some ⟨g, 0, none⟩), .int .i64 (m : Int)] W fun e w' =>
    ∃ b A' c' k' er', e = .returned (.slice A' b.length c') ∧ Byt w' w'.heap.size A' b ∧ b.length ≤ c' ∧ (A' = none → c' = 0) ∧ (∀ a, A' = some a → W.heap.size ≤ a.block) ∧ RdS g A l c w' k' er' ∧ RdI l (K + m) k' er' ∧ b.length ≤ m ∧ (K + m ≤ l.length → b = (l.drop K).take m) ∧ W.grownBy w' (some g) := by
  obtain ⟨a, b, b0⟩ := takeQ_inv (m := m) i
  refine (takeU W (m : Int) h hl hn).mono fun e w' ⟨⟨v, e1, ho⟩, e2, e3⟩ => ?_
  obtain ⟨A', c', rfl, hc, hby, hnl, hbl⟩ := ho.shape
  refine ⟨_, A', c', _, _, e1, hby, hc, hnl, fun x hx => (hbl x hx).1, e2, a, ?_, b, e3⟩
  by_cases hm : K + m ≤ l.length
  · rw [b hm]; simp; omega
  · rw [b0 (by omega)]; simp
end
end Go.Proofs.YtihakjcccbionaaGreatDoor

end
