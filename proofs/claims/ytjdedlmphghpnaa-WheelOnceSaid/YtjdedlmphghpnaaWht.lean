/-
  A wheel in the memory: its parts, its blocks; what calls leave.
-/
import Derived.Test.YtjdedlmphghpnaaWhs
namespace Go.Proofs.Ytjdedlmphghpnaa
open Go.RowKit
set_option maxRecDepth 100000
set_option linter.unusedVariables false

structure RowsW (w : World) (S : List Value) (lv : Value) (SL : Nat → List Int) (LL : List (Int × Int)) : Prop where
  soon : ∀ r, r < 64 → ∃ v, S[r]? = some v ∧ w.ownsRow 0 2 1 v (SL r).length ((SL r).map izV)
  apart : ∀ r s u v, r < 64 → s < 64 → r ≠ s → S[r]? = some u → S[s]? = some v → u.ownBlock = none ∨ u.ownBlock ≠ v.ownBlock
  late : w.ownsRow 0 43 2 lv LL.length (rowD LL)
def MapV (w : World) (mv : Value) (T : List (Int × Value)) : Prop := (mv = .map none ∧ T = []) ∨ ∃ b, mv = .map (some b) ∧ MapS w b T
structure WhP (w : World) (p : Nat) (now : Int) (mv : Value) (S : List Value) (lv : Value) (T : List (Int × Value)) (SL : Nat → List Int) (LL : List (Int × Int)) : Prop where
  blk : w.heap[p]? = some (.cells (whL now mv S lv).toArray 65 (0, 0))
  sl : S.length = 64
  map : MapV w mv T
  rows : RowsW w S lv SL LL
/-- the wheel's blocks. -/
def OwnWh (p : Nat) (mv : Value) (S : List Value) (lv : Value) (k : Nat) : Prop := k = p ∨ mv = .map (some k) ∨ (∃ r v, r < 64 ∧ S[r]? = some v ∧ v.ownBlock = some k) ∨ lv.ownBlock = some k
structure StW (w w' : World) (F F' : Nat → Prop) : Prop where
  os : w'.os = w.os
  tape : w'.tape = w.tape
  output : w'.output = w.output
  size : w.heap.size ≤ w'.heap.size
  block : ∀ k, k < w.heap.size → ¬ F k → w'.heap[k]? = w.heap[k]?
  own : ∀ k, F' k → F k ∨ w.heap.size ≤ k
theorem StW.refl (w : World) (F : Nat → Prop) : StW w w F F := ⟨rfl, rfl, rfl, Nat.le_refl _, fun _ _ _ => rfl, fun _ h => .inl h⟩
theorem StW.trans {a b c : World} {F G H : Nat → Prop} (h : StW a b F G) (h' : StW b c G H) : StW a c F H :=
  ⟨h'.os.trans h.os, h'.tape.trans h.tape, h'.output.trans h.output, Nat.le_trans h.size h'.size,
    fun k hk hn => (h'.block k (Nat.lt_of_lt_of_le hk h.size) (fun hg => (h.own k hg).elim hn (fun h2 => by omega))).trans (h.block k hk hn),
    fun k hk => (h'.own k hk).elim (fun hg => h.own k hg) (fun h2 => .inr (Nat.le_trans h.size h2))⟩
theorem StW.below {w w' : World} (h : Below w.heap.size w w') (F : Nat → Prop) : StW w w' F F := ⟨h.os, h.tape, h.output, h.size, fun k hk _ => h.block k hk, fun _ h => .inl h⟩
theorem row_block {w : World} {base e k n g : Nat} {v : Value} {xs : List Value} (h : w.ownsRow base e k v n xs) (hg : v.ownBlock = some g) : ∃ cur, w.heap[g]? = some (.cells cur e (0, 0)) := by
  rcases h.2 with ⟨e', h0⟩ | ⟨g', cap, cur, e', hb, hg', -⟩
  · rw [e'] at hg; simp [Value.ownBlock] at hg
  · rw [e'] at hg
    simp only [Value.ownBlock, Option.some.injEq] at hg
    subst hg
    exact ⟨cur, hg'⟩
section
variable {w w' : World} {p : Nat} {now : Int} {mv : Value} {S : List Value} {lv : Value} {T : List (Int × Value)} {SL : Nat → List Int} {LL : List (Int × Int)}
theorem WhP.lt (h : WhP w p now mv S lv T SL LL) : ∀ k, OwnWh p mv S lv k → k < w.heap.size := by
  rintro k (rfl | e | ⟨r, v, hr, hv, e⟩ | e)
  · exact (Array.getElem?_eq_some_iff.1 h.blk).1
  · rcases h.map with ⟨e2, _⟩ | ⟨b, e2, hm⟩
    · rw [e] at e2; cases e2
    · rw [e] at e2; injection e2 with e2; injection e2 with e2; rw [e2]; exact hm.lt
  · obtain ⟨u, hu, ho⟩ := h.rows.soon r hr
    rw [hv] at hu; injection hu with hu; subst hu
    exact (ho.lt k e).2
  · exact (h.rows.late.lt k e).2
/-- a soon row's block is no other one's. -/
theorem WhP.soon_ne (h : WhP w p now mv S lv T SL LL) {r g : Nat} {v : Value} (hr : r < 64) (hv : S[r]? = some v) (hg : v.ownBlock = some g) : g ≠ p ∧ mv ≠ .map (some g) ∧ lv.ownBlock ≠ some g := by
  obtain ⟨u, hu, ho⟩ := h.rows.soon r hr
  rw [hv] at hu; injection hu with hu; subst hu
  obtain ⟨cur, hc⟩ := row_block ho hg
  refine ⟨fun e => ?_, fun e => ?_, fun e => ?_⟩
  · subst e; rw [h.blk] at hc; injection hc with hc; injection hc with _ hc; exact absurd hc (by decide)
  · rcases h.map with ⟨e2, _⟩ | ⟨b, e2, es, c, hm, -⟩
    · rw [e] at e2; cases e2
    · rw [e] at e2; injection e2 with e2; injection e2 with e2; subst e2; rw [hm] at hc; cases hc
  · obtain ⟨cur2, hc2⟩ := row_block h.rows.late e
    rw [hc2] at hc; injection hc with hc; injection hc with _ hc; exact absurd hc (by decide)
theorem WhP.late_ne (h : WhP w p now mv S lv T SL LL) {g : Nat} (hg : lv.ownBlock = some g) : g ≠ p ∧ mv ≠ .map (some g) ∧ ∀ r v, r < 64 → S[r]? = some v → v.ownBlock ≠ some g := by
  obtain ⟨cur, hc⟩ := row_block h.rows.late hg
  refine ⟨fun e => ?_, fun e => ?_, fun r v hr hv e => (h.soon_ne hr hv e).2.2 hg⟩
  · subst e; rw [h.blk] at hc; injection hc with hc; injection hc with _ hc; exact absurd hc (by decide)
  · rcases h.map with ⟨e2, _⟩ | ⟨b, e2, es, c, hm, -⟩
    · rw [e] at e2; cases e2
    · rw [e] at e2; injection e2 with e2; injection e2 with e2; subst e2; rw [hm] at hc; cases hc
theorem WhP.map_ne (h : WhP w p now mv S lv T SL LL) : mv ≠ .map (some p) := fun e => by
  rcases h.map with ⟨e2, _⟩ | ⟨b, e2, es, c, hm, -⟩
  · rw [e] at e2; cases e2
  · rw [e] at e2; injection e2 with e2; injection e2 with e2; subst e2; have := h.blk; rw [hm] at this; cases this
/-- nothing of it is touched. -/
theorem WhP.keep (h : WhP w p now mv S lv T SL LL) (hk : ∀ k, OwnWh p mv S lv k → w'.heap[k]? = w.heap[k]?) (hs : w.heap.size ≤ w'.heap.size) : WhP w' p now mv S lv T SL LL := by
  have hrow : ∀ {e k n : Nat} {v : Value} {xs : List Value}, w.ownsRow 0 e k v n xs → (∀ g, v.ownBlock = some g → OwnWh p mv S lv g) → w'.ownsRow 0 e k v n xs := by
    intro e k n v xs ho hg
    refine ⟨ho.1, ?_⟩
    rcases ho.2 with hn | ⟨g, cap, cur, e', hb, hgg, rest⟩
    · exact .inl hn
    · exact .inr ⟨g, cap, cur, e', hb, (hk g (hg g (by rw [e']; rfl))).trans hgg, rest⟩
  refine ⟨(hk p (.inl rfl)).trans h.blk, h.sl, ?_, ⟨fun r hr => ?_, h.rows.apart, hrow h.rows.late (fun g hg => .inr (.inr (.inr hg)))⟩⟩
  · rcases h.map with e | ⟨b, e, hm⟩
    · exact .inl e
    · exact .inr ⟨b, e, hm.of_heap (hk b (.inr (.inl e)))⟩
  · obtain ⟨v, hv, ho⟩ := h.rows.soon r hr
    exact ⟨v, hv, hrow ho (fun g hg => .inr (.inr (.inl ⟨r, v, hr, hv, hg⟩)))⟩
theorem WhP.bel (h : WhP w p now mv S lv T SL LL) (hb : Below w.heap.size w w') : WhP w' p now mv S lv T SL LL := h.keep (fun k hk => hb.block k (h.lt k hk)) hb.size
/-- a soon row is another one now. -/
theorem WhP.setS (h : WhP w p now mv S lv T SL LL) {r : Nat} {v v' : Value} {ids : List Int} (hr : r < 64) (hv : S[r]? = some v) (hb : w'.heap[p]? = some (.cells (whL now mv (S.set r v') lv).toArray 65 (0, 0)))
    (ho : w'.ownsRow 0 2 1 v' ids.length (ids.map izV)) (ht : TouchW w w' p v.ownBlock v'.ownBlock) :
    WhP w' p now mv (S.set r v') lv T (fun s => if s = r then ids else SL s) LL ∧ StW w w' (OwnWh p mv S lv) (OwnWh p mv (S.set r v') lv) := by
  have hkeep : ∀ k, k < w.heap.size → k ≠ p → v.ownBlock ≠ some k → w'.heap[k]? = w.heap[k]? := fun k hk h1 h2 => ht.block k hk h1 (fun e => h2 e.symm)
  have hrow : ∀ {e k n : Nat} {u : Value} {xs : List Value}, w.ownsRow 0 e k u n xs → (∀ g, u.ownBlock = some g → g ≠ p ∧ v.ownBlock ≠ some g) → w'.ownsRow 0 e k u n xs := by
    intro e k n u xs ho hg
    refine ⟨ho.1, ?_⟩
    rcases ho.2 with hn | ⟨g, cap, cur, e', hb, hgg, rest⟩
    · exact .inl hn
    · have := hg g (by rw [e']; rfl)
      exact .inr ⟨g, cap, cur, e', hb, (hkeep g (Array.getElem?_eq_some_iff.1 hgg).1 this.1 this.2).trans hgg, rest⟩
  have hlen : r < S.length := by rw [h.sl]; exact hr
  refine ⟨⟨hb, by rw [List.length_set, h.sl], ?_, ⟨fun s hs => ?_, fun a b u z ha hb' hab hu hz => ?_, hrow h.rows.late (fun g hg => ⟨(h.late_ne hg).1, (h.late_ne hg).2.2 r v hr hv⟩)⟩⟩, ⟨ht.os, ht.tape, ht.output, ht.size, fun k hk hn => hkeep k hk (fun e => hn (.inl e)) (fun e => hn (.inr (.inr (.inl ⟨r, v, hr, hv, e⟩)))), ?_⟩⟩
  · rcases h.map with e | ⟨b, e, hm⟩
    · exact .inl e
    · refine .inr ⟨b, e, hm.of_heap (hkeep b hm.lt (fun e2 => ?_) (fun e2 => (h.soon_ne hr hv e2).2.1 e))⟩
      subst e2; exact h.map_ne e
  · by_cases e : s = r
    · subst e
      rw [if_pos rfl]
      exact ⟨v', by rw [List.getElem?_set_self hlen], ho⟩
    · obtain ⟨u, hu, hou⟩ := h.rows.soon s hs
      rw [if_neg e]
      refine ⟨u, by rw [List.getElem?_set_ne (Ne.symm e)]; exact hu, hrow hou (fun g hg => ⟨(h.soon_ne hs hu hg).1, fun e2 => ?_⟩)⟩
      rcases h.rows.apart s r u v hs hr e hu hv with h1 | h1
      · rw [hg] at h1; cases h1
      · exact h1 (by rw [hg, e2])
  · have hnew : ∀ {s u}, s < 64 → s ≠ r → S[s]? = some u → v'.ownBlock = none ∨ v'.ownBlock ≠ u.ownBlock := by
      intro s u hs hsr hu
      rcases ht.own with e | ⟨g, e, hg⟩
      · rcases h.rows.apart r s v u hr hs (Ne.symm hsr) hv hu with h1 | h1
        · exact .inl (e.trans h1)
        · exact .inr (by rw [e]; exact h1)
      · refine .inr (fun e2 => ?_)
        rw [e] at e2
        have := h.lt g (.inr (.inr (.inl ⟨s, u, hs, hu, e2.symm⟩)))
        omega
    have hflip : ∀ {a b : Option Nat}, (a = none ∨ a ≠ b) → (b = none ∨ b ≠ a) := by
      rintro (_ | a) (_ | b) h
      · exact .inl rfl
      · exact .inr (by simp)
      · exact .inl rfl
      · rcases h with h | h
        · cases h
        · exact .inr (Ne.symm h)
    by_cases e1 : a = r
    · subst e1
      rw [List.getElem?_set_self hlen] at hu
      injection hu with hu; subst hu
      rw [List.getElem?_set_ne hab] at hz
      exact hnew hb' (Ne.symm hab) hz
    · rw [List.getElem?_set_ne (Ne.symm e1)] at hu
      by_cases e2 : b = r
      · subst e2
        rw [List.getElem?_set_self hlen] at hz
        injection hz with hz; subst hz
        exact hflip (hnew ha hab hu)
      · rw [List.getElem?_set_ne (Ne.symm e2)] at hz
        exact h.rows.apart a b u z ha hb' hab hu hz
  · rintro k (e | e | ⟨s, u, hs, hu, e⟩ | e)
    · exact .inl (.inl e)
    · exact .inl (.inr (.inl e))
    · by_cases e1 : s = r
      · subst e1
        rw [List.getElem?_set_self hlen] at hu
        injection hu with hu; subst hu
        rcases ht.own with e2 | ⟨g, e2, hg⟩
        · exact .inl (.inr (.inr (.inl ⟨s, v, hs, hv, by rw [← e2]; exact e⟩)))
        · rw [e2] at e; injection e with e; exact .inr (by omega)
      · rw [List.getElem?_set_ne (Ne.symm e1)] at hu
        exact .inl (.inr (.inr (.inl ⟨s, u, hs, hu, e⟩)))
    · exact .inl (.inr (.inr (.inr e)))
/-- the late row is another one now. -/
theorem WhP.setL (h : WhP w p now mv S lv T SL LL) {v' : Value} {l : List (Int × Int)} (hb : w'.heap[p]? = some (.cells (whL now mv S v').toArray 65 (0, 0)))
    (ho : w'.ownsRow 0 43 2 v' l.length (rowD l)) (ht : TouchW w w' p lv.ownBlock v'.ownBlock) :
    WhP w' p now mv S v' T SL l ∧ StW w w' (OwnWh p mv S lv) (OwnWh p mv S v') := by
  have hkeep : ∀ k, k < w.heap.size → k ≠ p → lv.ownBlock ≠ some k → w'.heap[k]? = w.heap[k]? := fun k hk h1 h2 => ht.block k hk h1 (fun e => h2 e.symm)
  have hrow : ∀ {e k n : Nat} {u : Value} {xs : List Value}, w.ownsRow 0 e k u n xs → (∀ g, u.ownBlock = some g → g ≠ p ∧ lv.ownBlock ≠ some g) → w'.ownsRow 0 e k u n xs := by
    intro e k n u xs ho hg
    refine ⟨ho.1, ?_⟩
    rcases ho.2 with hn | ⟨g, cap, cur, e', hb, hgg, rest⟩
    · exact .inl hn
    · have := hg g (by rw [e']; rfl)
      exact .inr ⟨g, cap, cur, e', hb, (hkeep g (Array.getElem?_eq_some_iff.1 hgg).1 this.1 this.2).trans hgg, rest⟩
  refine ⟨⟨hb, h.sl, ?_, ⟨fun s hs => ?_, h.rows.apart, ho⟩⟩, ⟨ht.os, ht.tape, ht.output, ht.size, fun k hk hn => hkeep k hk (fun e => hn (.inl e)) (fun e => hn (.inr (.inr (.inr e)))), ?_⟩⟩
  · rcases h.map with e | ⟨b, e, hm⟩
    · exact .inl e
    · refine .inr ⟨b, e, hm.of_heap (hkeep b hm.lt (fun e2 => ?_) (fun e2 => (h.late_ne e2).2.1 e))⟩
      subst e2; exact h.map_ne e
  · obtain ⟨u, hu, hou⟩ := h.rows.soon s hs
    exact ⟨u, hu, hrow hou (fun g hg => ⟨(h.soon_ne hs hu hg).1, (h.soon_ne hs hu hg).2.2⟩)⟩
  · rintro k (e | e | e | e)
    · exact .inl (.inl e)
    · exact .inl (.inr (.inl e))
    · exact .inl (.inr (.inr (.inl e)))
    · rcases ht.own with e2 | ⟨g, e2, hg⟩
      · exact .inl (.inr (.inr (.inr (by rw [← e2]; exact e))))
      · rw [e2] at e; injection e with e; exact .inr (by omega)
/-- the wheel's own cells alone are others now. -/
theorem WhP.setP (h : WhP w p now mv S lv T SL LL) {now' : Int} {S' : List Value} {SL' : Nat → List Int} (hb : w'.heap[p]? = some (.cells (whL now' mv S' lv).toArray 65 (0, 0))) (hl : S'.length = 64)
    (hS : ∀ r, r < 64 → (S'[r]? = S[r]? ∧ SL' r = SL r) ∨ (S'[r]? = some (.slice none 0 0) ∧ SL' r = [])) (ht : TouchW w w' p none none) :
    WhP w' p now' mv S' lv T SL' LL ∧ StW w w' (OwnWh p mv S lv) (OwnWh p mv S' lv) := by
  have hkeep : ∀ k, k < w.heap.size → k ≠ p → w'.heap[k]? = w.heap[k]? := fun k hk h1 => ht.block k hk h1 (by simp)
  have hrow : ∀ {e k n : Nat} {u : Value} {xs : List Value}, w.ownsRow 0 e k u n xs → (∀ g, u.ownBlock = some g → g ≠ p) → w'.ownsRow 0 e k u n xs := by
    intro e k n u xs ho hg
    refine ⟨ho.1, ?_⟩
    rcases ho.2 with hn | ⟨g, cap, cur, e', hb, hgg, rest⟩
    · exact .inl hn
    · exact .inr ⟨g, cap, cur, e', hb, (hkeep g (Array.getElem?_eq_some_iff.1 hgg).1 (hg g (by rw [e']; rfl))).trans hgg, rest⟩
  refine ⟨⟨hb, hl, ?_, ⟨fun s hs => ?_, fun a b u z ha hb' hab hu hz => ?_, hrow h.rows.late (fun g hg => (h.late_ne hg).1)⟩⟩, ⟨ht.os, ht.tape, ht.output, ht.size, fun k hk hn => hkeep k hk (fun e => hn (.inl e)), ?_⟩⟩
  · rcases h.map with e | ⟨b, e, hm⟩
    · exact .inl e
    · refine .inr ⟨b, e, hm.of_heap (hkeep b hm.lt (fun e2 => ?_))⟩
      subst e2; exact h.map_ne e
  · rcases hS s hs with ⟨e1, e2⟩ | ⟨e1, e2⟩
    · obtain ⟨u, hu, hou⟩ := h.rows.soon s hs
      exact ⟨u, by rw [e1]; exact hu, by rw [e2]; exact hrow hou (fun g hg => (h.soon_ne hs hu hg).1)⟩
    · exact ⟨_, e1, by rw [e2]; exact World.ownsRow_nil _ _ _ _⟩
  · rcases hS a ha with ⟨e1, _⟩ | ⟨e1, _⟩
    · rcases hS b hb' with ⟨e3, _⟩ | ⟨e3, _⟩
      · exact h.rows.apart a b u z ha hb' hab (by rw [← e1]; exact hu) (by rw [← e3]; exact hz)
      · rw [e3] at hz; injection hz with hz; subst hz
        cases hq : u.ownBlock with
        | none => exact .inl rfl
        | some k => exact .inr (by simp [Value.ownBlock])
    · rw [e1] at hu; injection hu with hu; subst hu; exact .inl rfl
  · rintro k (e | e | ⟨s, u, hs, hu, e⟩ | e)
    · exact .inl (.inl e)
    · exact .inl (.inr (.inl e))
    · rcases hS s hs with ⟨e1, _⟩ | ⟨e1, _⟩
      · exact .inl (.inr (.inr (.inl ⟨s, u, hs, by rw [← e1]; exact hu, e⟩)))
      · rw [e1] at hu; injection hu with hu; subst hu; cases e
    · exact .inl (.inr (.inr (.inr e)))
/-- the map alone is another one now. -/
theorem WhP.setM (h : WhP w p now mv S lv T SL LL) {b : Nat} {o : Obj} {T' : List (Int × Value)} (hm : mv = .map (some b)) (hs : MapS (w.putObj b o) b T') :
    WhP (w.putObj b o) p now mv S lv T' SL LL ∧ StW w (w.putObj b o) (OwnWh p mv S lv) (OwnWh p mv S lv) := by
  have hkeep : ∀ k, k ≠ b → (w.putObj b o).heap[k]? = w.heap[k]? := fun k h1 => World.putObj_heap_other h1
  have hrow : ∀ {e k n : Nat} {u : Value} {xs : List Value}, w.ownsRow 0 e k u n xs → (∀ g, u.ownBlock = some g → g ≠ b) → (w.putObj b o).ownsRow 0 e k u n xs := by
    intro e k n u xs ho hg
    refine ⟨ho.1, ?_⟩
    rcases ho.2 with hn | ⟨g, cap, cur, e', hb, hgg, rest⟩
    · exact .inl hn
    · exact .inr ⟨g, cap, cur, e', hb, (hkeep g (hg g (by rw [e']; rfl))).trans hgg, rest⟩
  refine ⟨⟨(hkeep p (fun e => h.map_ne (by rw [hm, e]))).trans h.blk, h.sl, .inr ⟨b, hm, hs⟩, ⟨fun s hs => ?_, h.rows.apart, hrow h.rows.late (fun g hg e => (h.late_ne hg).2.1 (by rw [hm, e]))⟩⟩, ⟨rfl, rfl, rfl, by simp, fun k hk hn => hkeep k (fun e => hn (.inr (.inl (by rw [hm, e])))), fun k hk => .inl hk⟩⟩
  obtain ⟨u, hu, hou⟩ := h.rows.soon s hs
  exact ⟨u, hu, hrow hou (fun g hg e => (h.soon_ne hs hu hg).2.1 (by rw [hm, e]))⟩
/-- a map is made. -/
theorem WhP.newM (h : WhP w p now (.map none) S lv [] SL LL) {w1 : World} {b : Nat} (hb : Below w.heap.size w w1) (hlt : w.heap.size ≤ b) (hm : MapS w1 b []) :
    WhP (w1.setCell ⟨p, 1, none⟩ (.map (some b))) p now (.map (some b)) S lv [] SL LL ∧ StW w (w1.setCell ⟨p, 1, none⟩ (.map (some b))) (OwnWh p (.map none) S lv) (OwnWh p (.map (some b)) S lv) := by
  have h1 := h.bel hb
  have hpl : p < w.heap.size := h.lt p (.inl rfl)
  have hg := grown_cell (i := 1) h1.blk (.map (some b))
  have hkeep : ∀ k, k ≠ p → k < w1.heap.size → (w1.setCell ⟨p, 1, none⟩ (.map (some b))).heap[k]? = w1.heap[k]? := fun k h2 h3 => hg.block k h3 (by simpa using h2)
  have hrow : ∀ {e k n : Nat} {u : Value} {xs : List Value}, w1.ownsRow 0 e k u n xs → (∀ g, u.ownBlock = some g → g ≠ p) → (w1.setCell ⟨p, 1, none⟩ (.map (some b))).ownsRow 0 e k u n xs := by
    intro e k n u xs ho hgg
    refine ho.kept hg ?_
    cases hq : u.ownBlock with
    | none => exact .inl rfl
    | some j => exact .inr (by have := hgg j hq; simpa using this)
  refine ⟨⟨?_, h.sl, .inr ⟨b, rfl, hm.of_heap (hkeep b (by omega) hm.lt)⟩, ⟨fun s hs => ?_, h.rows.apart, hrow h1.rows.late (fun g hg => (h1.late_ne hg).1)⟩⟩, ⟨hg.os.trans hb.os, hg.tape.trans hb.tape, hg.output.trans hb.output, Nat.le_trans hb.size hg.size, fun k hk hn => (hkeep k (fun e => hn (.inl e)) (Nat.lt_of_lt_of_le hk hb.size)).trans (hb.block k hk), ?_⟩⟩
  · rw [setCell_block h1.blk]; rfl
  · obtain ⟨u, hu, hou⟩ := h1.rows.soon s hs
    exact ⟨u, hu, hrow hou (fun g hg => (h1.soon_ne hs hu hg).1)⟩
  · rintro k (e | e | e | e)
    · exact .inl (.inl e)
    · injection e with e; injection e with e; exact .inr (by omega)
    · exact .inl (.inr (.inr (.inl e)))
    · exact .inl (.inr (.inr (.inr e)))
end
/-- a wheel, what is due on it, its blocks. -/
def WhW (w : World) (p : Nat) (now : Int) (D : List (Int × Int)) (F : Nat → Prop) : Prop :=
  ∃ mv S lv T, WhP w p now mv S lv T (soonL D (now + 64)) (lateL D (now + 64)) ∧ TimesOk T D ∧ OkD now D ∧ F = OwnWh p mv S lv
theorem WhW.lt {w : World} {p : Nat} {now : Int} {D : List (Int × Int)} {F : Nat → Prop} (h : WhW w p now D F) : ∀ k, F k → k < w.heap.size := by
  obtain ⟨mv, S, lv, T, h1, _, _, rfl⟩ := h
  exact h1.lt
theorem WhW.ok {w : World} {p : Nat} {now : Int} {D : List (Int × Int)} {F : Nat → Prop} (h : WhW w p now D F) : OkD now D := by
  obtain ⟨mv, S, lv, T, h1, _, h2, rfl⟩ := h
  exact h2
theorem WhW.keep {w w' : World} {p : Nat} {now : Int} {D : List (Int × Int)} {F : Nat → Prop} (h : WhW w p now D F) (hk : ∀ k, F k → w'.heap[k]? = w.heap[k]?) (hs : w.heap.size ≤ w'.heap.size) : WhW w' p now D F := by
  obtain ⟨mv, S, lv, T, h1, h2, h3, rfl⟩ := h
  exact ⟨mv, S, lv, T, h1.keep hk hs, h2, h3, rfl⟩
theorem WhW.bel {w w' : World} {p : Nat} {now : Int} {D : List (Int × Int)} {F : Nat → Prop} (h : WhW w p now D F) (hb : Below w.heap.size w w') : WhW w' p now D F := h.keep (fun k hk => hb.block k (h.lt k hk)) hb.size
/-- another wheel's call leaves this one as it was. -/
theorem WhW.step {w w' : World} {p : Nat} {now : Int} {D : List (Int × Int)} {F G G' : Nat → Prop} (h : WhW w p now D F) (hs : StW w w' G G') (hd : ∀ k, F k → ¬ G k) : WhW w' p now D F ∧ ∀ k, F k → ¬ G' k :=
  ⟨h.keep (fun k hk => hs.block k (h.lt k hk) (hd k hk)) hs.size, fun k hk hg => (hs.own k hg).elim (hd k hk) (fun h2 => by have := h.lt k hk; omega)⟩
end Go.Proofs.Ytjdedlmphghpnaa
