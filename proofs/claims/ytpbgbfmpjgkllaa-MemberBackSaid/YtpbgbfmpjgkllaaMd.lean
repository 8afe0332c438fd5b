/-
  'for k, v := range m' over a map whose keys are whole numbers: what has come so far, and what is left. Nothing here speaks of one function.
-/
import Derived.Test.YtpbgbfmpjgkllaaMp
import Derived.Maps.RangeWalk
namespace Go.Proofs.Ytpbgbfmpjgkllaa
open Go.RowKit Go.MapKept
open Go.ChangeMaps (setBlock)
set_option linter.unusedVariables false
set_option linter.unusedSimpArgs false

theorem born_one {es : Array MapEntry} {c : Nat} (h : Stamps es c) {x e : MapEntry} (hx : x ∈ es.toList) (he : e ∈ es.toList) (hb : x.born = e.born) : x = e := by
  have h1 := find_born e es.toList h.1 he
  have h2 := find_born x es.toList h.1 hx
  rw [hb, h1] at h2
  exact (Option.some.inj h2).symm
theorem Reads.mem {es : Array MapEntry} {L : List (Int × Value)} (h : Reads es L) {e : MapEntry} (he : e ∈ es.toList) : ∃ k v, (k, v) ∈ L ∧ e.key = .int .i64 k ∧ e.val = v := by
  have : (e.key, e.val) ∈ es.toList.map (fun e => (e.key, e.val)) := List.mem_map.2 ⟨e, he, rfl⟩
  rw [h] at this
  obtain ⟨p, hp, hpe⟩ := List.mem_map.1 this
  simp only [Prod.mk.injEq] at hpe
  exact ⟨p.1, p.2, hp, hpe.1.symm, hpe.2.symm⟩
theorem Reads.back {es : Array MapEntry} {L : List (Int × Value)} (h : Reads es L) {p : Int × Value} (hp : p ∈ L) : ∃ e ∈ es.toList, e.key = .int .i64 p.1 ∧ e.val = p.2 := by
  have : (Value.int .i64 p.1, p.2) ∈ L.map (fun p => (Value.int .i64 p.1, p.2)) := List.mem_map.2 ⟨p, hp, rfl⟩
  rw [← h] at this
  obtain ⟨e, he, hpe⟩ := List.mem_map.1 this
  simp only [Prod.mk.injEq] at hpe
  exact ⟨e, he, hpe.1, hpe.2⟩
/-- a walk over a map: of all that has come, G is so; n are left. -/
def IterS (w : World) (b r : Nat) (L : List (Int × Value)) (G : Int → Value → Prop) (n : Nat) : Prop :=
  ∃ es clock seen, w.heap[b]? = some (.map es clock) ∧ Reads es L ∧ Stamps es clock ∧ w.heap[r]? = some (.mapIter (some b) clock seen clock) ∧ n = (leftOf es seen).size ∧
    ∀ x ∈ es.toList, seen.contains x.born = true → ∀ k, x.key = .int .i64 k → G k x.val
theorem IterS.left {w : World} {b r : Nat} {L : List (Int × Value)} {G : Int → Value → Prop} {n : Nat} (h : IterS w b r L G n) : w.rangeLeft b r = n := by
  obtain ⟨es, c, seen, hb, hr, hs, hi, hn, hg⟩ := h
  unfold World.rangeLeft
  rw [hb, hi, hn]
theorem IterS.lt {w : World} {b r : Nat} {L : List (Int × Value)} {G : Int → Value → Prop} {n : Nat} (h : IterS w b r L G n) : r < w.heap.size := by
  obtain ⟨es, c, seen, hb, hr, hs, hi, hn, hg⟩ := h
  exact (Array.getElem?_eq_some_iff.1 hi).1
theorem IterS.mono {w : World} {b r : Nat} {L : List (Int × Value)} {G G' : Int → Value → Prop} {n : Nat} (h : IterS w b r L G n) (hG : ∀ k v, G k v → G' k v) : IterS w b r L G' n := by
  obtain ⟨es, c, seen, hb, hr, hs, hi, hn, hg⟩ := h
  exact ⟨es, c, seen, hb, hr, hs, hi, hn, fun x hx h k hk => hG _ _ (hg x hx h k hk)⟩
theorem IterS.of_heap {w w' : World} {b r : Nat} {L : List (Int × Value)} {G : Int → Value → Prop} {n : Nat} (h : IterS w b r L G n) (hk : ∀ i, i < w.heap.size → w'.heap[i]? = w.heap[i]?) : IterS w' b r L G n := by
  obtain ⟨es, c, seen, hb, hr, hs, hi, hn, hg⟩ := h
  exact ⟨es, c, seen, (hk b (Array.getElem?_eq_some_iff.1 hb).1).trans hb, hr, hs, (hk r (Array.getElem?_eq_some_iff.1 hi).1).trans hi, hn, hg⟩
/-- 'range m'. -/
theorem MapS.range {P : Program} {w : World} {t kt e : TypeId} {b : Nat} {L : List (Int × Value)} (h : MapS w b L) (ht : P.underlying t = some (.map kt e)) (G : Int → Value → Prop) :
    (Instr.range t (.map (some b))).run P w = .ok (.pointer (some ⟨w.heap.size, 0, none⟩)) (w.alloc (.mapIter (some b) (match w.heap[b]? with | some (.map _ c) => c | _ => 0) #[] (match w.heap[b]? with | some (.map _ c) => c | _ => 0))) ∧
    IterS (w.alloc (.mapIter (some b) (match w.heap[b]? with | some (.map _ c) => c | _ => 0) #[] (match w.heap[b]? with | some (.map _ c) => c | _ => 0))) b w.heap.size L G L.length := by
  have hlt := h.lt
  obtain ⟨es, c, hb, hr, hs⟩ := h
  rw [hb]
  refine ⟨run_range_map w t kt e b es c ht hb, es, c, #[], ((MapKept.heap_alloc w _).2 b hlt).trans hb, hr, hs, (MapKept.heap_alloc w _).1, by
    rw [← hr.size]
    unfold leftOf
    rw [Array.filter_eq_self.2 (fun x hx => by simp)], fun x hx hc => by simp at hc⟩
/-- the step. -/
theorem IterS.next {P : Program} {w : World} {b r : Nat} {L : List (Int × Value)} {G : Int → Value → Prop} {n : Nat} (h : IterS w b r L G n) (ty : TypeId) :
    (n = 0 ∧ (∀ p ∈ L, G p.1 p.2) ∧ (Instr.next (.pointer (some ⟨r, 0, none⟩)) false ty).run P w = .ok (.tuple #[.bool false]) w) ∨
    ∃ k v w' n', (k, v) ∈ L ∧ (Instr.next (.pointer (some ⟨r, 0, none⟩)) false ty).run P w = .ok (.tuple #[.bool true, .int .i64 k, v]) w' ∧ IterS w' b r L (fun k' v' => (k' = k ∧ v' = v) ∨ G k' v') n' ∧ n' < n ∧
      w.grownBy w' (some r) ∧ w'.heap.size = w.heap.size ∧ (Instr.entry (.pointer (some ⟨r, 0, none⟩))).run P w' = .ok (.tuple #[.int .i64 k, v]) w' := by
  obtain ⟨es, c, seen, hb, hr, hs, hi, rfl, hg⟩ := h
  rcases run_next_at (P := P) w ty r b c c seen es c hi hb hs.2 (Nat.le_refl _) with ⟨h0, hrun⟩ | ⟨e, he, w1, hal, hrun⟩
  · refine .inl ⟨h0, fun p hp => ?_, hrun⟩
    obtain ⟨x, hx, hk, hv⟩ := hr.back hp
    rw [← hv]
    exact hg x hx (all_seen es seen h0 x hx) p.1 hk
  · obtain ⟨hem, hes⟩ := mem_left he
    obtain ⟨k, v, hkv, hk, hv⟩ := hr.mem hem
    have hr1 : w1.heap[r]? = some (.mapIter (some b) c seen c) := by rcases hal with rfl | rfl <;> exact hi
    have hb1 : w1.heap[b]? = some (.map es c) := by rcases hal with rfl | rfl <;> exact hb
    have hne : r ≠ b := fun e => by rw [e, hb] at hi; cases hi
    have hset := heap_set (o' := .mapIter (some b) c (seen.push e.born) c) hr1
    have hb' : (setBlock w1 r (.mapIter (some b) c (seen.push e.born) c)).heap[b]? = some (.map es c) := (hset.2 b (fun e1 => hne e1.symm)).trans hb1
    have hen := run_entry_at (P := P) _ r b c seen es c e hset.1 hb' hem hs.1
    rw [hk, hv] at hrun hen
    refine .inr ⟨k, v, _, _, hkv, hrun, ⟨es, c, seen.push e.born, hb', hr, hs, hset.1, rfl, fun x hx hc k' hk' => ?_⟩, left_shrinks es seen e he, ?_, ?_, hen⟩
    · rw [contains_push] at hc
      rcases (Bool.or_eq_true _ _).mp hc with h1 | h1
      · exact .inr (hg x hx h1 k' hk')
      · have hxe := born_one hs hx hem (by simpa using h1)
        subst hxe
        rw [hk] at hk'
        cases hk'
        exact .inl ⟨rfl, hv⟩
    · rcases hal with rfl | rfl <;> exact ⟨rfl, rfl, rfl, by simp [setBlock], fun i _ hi => hset.2 i (fun e1 => hi (by rw [e1]))⟩
    · rcases hal with rfl | rfl <;> simp [setBlock]
section
variable {P : Program} (w : World) {ops : Array Oper} {rest : List Oper} {o : Oper} {a : Act} {Q : Exit → Act → World → Prop}
theorem wpList_rangeS (hg : o.guard = none) (m : Operand) (t kt e : TypeId) (hop : o.op = Op.range t m) (ht : P.underlying t = some (.map kt e)) (b : Nat) (L : List (Int × Value)) (G : Int → Value → Prop)
    (hm : a.eval m = .map (some b)) (h : MapS w b L)
    (hK : ∀ w', IterS w' b w.heap.size L G L.length → Below w.heap.size w w' → w'.heap.size = w.heap.size + 1 → wpList P ops Q rest (a.put o.dst (.pointer (some ⟨w.heap.size, 0, none⟩))) w') :
    wpList P ops Q (o :: rest) a w := by
  refine wpList_plain hg fun K' hK' => ?_
  obtain ⟨hrun, r1⟩ := h.range (P := P) ht G
  unfold Oper.wp
  simp [execOp, hop, hm, hrun, Result.andThen]
  exact hK' _ _ (hK _ r1 ((Below.refl _ _).alloc (Nat.le_refl _) _) (by simp))
theorem wpList_nextS (hg : o.guard = none) (it : Operand) (hop : o.op = Op.next it false) (b r : Nat) (L : List (Int × Value)) (G : Int → Value → Prop) (n : Nat)
    (hit : a.eval it = .pointer (some ⟨r, 0, none⟩)) (h : IterS w b r L G n)
    (hDone : n = 0 → (∀ p ∈ L, G p.1 p.2) → wpList P ops Q rest (a.put o.dst (.tuple #[.bool false])) w)
    (hMore : ∀ (k : Int) (v : Value) (w' : World) (n' : Nat), (k, v) ∈ L → IterS w' b r L (fun k' v' => (k' = k ∧ v' = v) ∨ G k' v') n' → n' < n →
      w.grownBy w' (some r) → w'.heap.size = w.heap.size → (Instr.entry (.pointer (some ⟨r, 0, none⟩))).run P w' = .ok (.tuple #[.int .i64 k, v]) w' → wpList P ops Q rest (a.put o.dst (.tuple #[.bool true, .int .i64 k, v])) w') :
    wpList P ops Q (o :: rest) a w := by
  refine wpList_plain hg fun K' hK' => ?_
  unfold Oper.wp
  rcases h.next (P := P) o.type with ⟨h0, hl, hrun⟩ | ⟨k, v, w', n', hkv, hrun, hI, hlt, hgr, hsz, hen⟩
  · simp [execOp, hop, hit, hrun, Result.andThen]
    exact hK' _ _ (hDone h0 hl)
  · simp [execOp, hop, hit, hrun, Result.andThen]
    exact hK' _ _ (hMore k v w' n' hkv hI hlt hgr hsz hen)
end
end Go.Proofs.Ytpbgbfmpjgkllaa
