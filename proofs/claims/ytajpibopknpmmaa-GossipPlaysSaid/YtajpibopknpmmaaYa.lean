/-
  The document's queue: its words; looked up, how often one is told still.
-/
import Derived.Test.YtajpibopknpmmaaGm
namespace Go.Proofs.Ytajpibopknpmmaa
open Go.RowKit
set_option maxRecDepth 100000
set_option linter.unusedVariables false
set_option linter.unusedSimpArgs false

/-- one that waits, as three cells. -/
def itA (k : Int) (D : Option Addr) (n c : Nat) (t : Int) : Array Value := #[.int .i64 k, .slice D n c, .int .i64 t]
/-- those that wait, from one block on: T has the blocks of what they hold. -/
def ItemC (w : World) (T : Nat → Prop) : List Value → List (Int × Nw) → Prop
  | [], [] => True
  | a :: b :: c :: s, p :: t => a = .int .i64 p.1 ∧ (∃ D cc, b = .slice D p.2.1.length cc ∧ p.2.1.length ≤ cc ∧ Byt w w.heap.size D p.2.1 ∧ ∀ x, D = some x → T x.block) ∧ c = .int .i64 (p.2.2 : Int) ∧ ItemC w T s t
  | _, _ => False
theorem ItemC.mono {w w' : World} {T T' : Nat → Prop} (hT : ∀ g, T g → T' g) (hk : ∀ D l, Byt w w.heap.size D l → (∀ x, D = some x → T x.block) → Byt w' w'.heap.size D l) : ∀ {cs : List Value} {l : List (Int × Nw)}, ItemC w T cs l → ItemC w' T' cs l
  | [], [], _ => trivial
  | a :: b :: c :: s, p :: t, h => ⟨h.1, by obtain ⟨D, cc, e, h1, h2, h3⟩ := h.2.1; exact ⟨D, cc, e, h1, hk _ _ h2 h3, fun x hx => hT _ (h3 x hx)⟩, h.2.2.1, ItemC.mono hT hk h.2.2.2⟩
  | [], _ :: _, h => by unfold ItemC at h; exact h.elim
  | [_], [], h => by unfold ItemC at h; exact h.elim
  | [_], _ :: _, h => by unfold ItemC at h; exact h.elim
  | [_, _], [], h => by unfold ItemC at h; exact h.elim
  | [_, _], _ :: _, h => by unfold ItemC at h; exact h.elim
  | _ :: _ :: _ :: _, [], h => by unfold ItemC at h; exact h.elim
theorem ItemC.len {w : World} {T : Nat → Prop} : ∀ {cs : List Value} {l : List (Int × Nw)}, ItemC w T cs l → cs.length = l.length * 3
  | [], [], _ => rfl
  | a :: b :: c :: s, p :: t, h => by have := ItemC.len h.2.2.2; simp only [List.length_cons]; omega
  | [], _ :: _, h => by unfold ItemC at h; exact h.elim
  | [_], [], h => by unfold ItemC at h; exact h.elim
  | [_], _ :: _, h => by unfold ItemC at h; exact h.elim
  | [_, _], [], h => by unfold ItemC at h; exact h.elim
  | [_, _], _ :: _, h => by unfold ItemC at h; exact h.elim
  | _ :: _ :: _ :: _, [], h => by unfold ItemC at h; exact h.elim
theorem ItemC.get {w : World} {T : Nat → Prop} : ∀ {cs : List Value} {l : List (Int × Nw)}, ItemC w T cs l → ∀ j (hj : j < l.length), cs[j * 3]? = some (.int .i64 l[j].1) ∧ (∃ D c, cs[j * 3 + 1]? = some (.slice D l[j].2.1.length c) ∧ l[j].2.1.length ≤ c ∧ Byt w w.heap.size D l[j].2.1 ∧ ∀ x, D = some x → T x.block) ∧ cs[j * 3 + 2]? = some (.int .i64 (l[j].2.2 : Int))
  | [], [], _, j, hj => absurd hj (by simp)
  | a :: b :: c :: s, p :: t, h, 0, hj => by
    obtain ⟨D, cc, e, h1, h2, h3⟩ := h.2.1
    exact ⟨by rw [h.1]; rfl, ⟨D, cc, by rw [e]; rfl, h1, h2, h3⟩, by rw [h.2.2.1]; rfl⟩
  | a :: b :: c :: s, p :: t, h, j + 1, hj => by
    have := ItemC.get h.2.2.2 j (by simpa using hj)
    rw [show (j + 1) * 3 = j * 3 + 1 + 1 + 1 by omega, show j * 3 + 1 + 1 + 1 + 1 = (j * 3 + 1) + 1 + 1 + 1 by omega, show j * 3 + 1 + 1 + 1 + 2 = (j * 3 + 2) + 1 + 1 + 1 by omega]
    simpa only [List.getElem?_cons_succ, List.getElem_cons_succ] using this
  | [], _ :: _, h, _, _ => by unfold ItemC at h; exact h.elim
  | [_], [], h, _, _ => by unfold ItemC at h; exact h.elim
  | [_], _ :: _, h, _, _ => by unfold ItemC at h; exact h.elim
  | [_, _], [], h, _, _ => by unfold ItemC at h; exact h.elim
  | [_, _], _ :: _, h, _, _ => by unfold ItemC at h; exact h.elim
  | _ :: _ :: _ :: _, [], h, _, _ => by unfold ItemC at h; exact h.elim
theorem ItemC.snoc {w : World} {T : Nat → Prop} {k : Int} {D : Option Addr} {c : Nat} {x : Nw} (hc : x.1.length ≤ c) (hb : Byt w w.heap.size D x.1) (hD : ∀ a, D = some a → T a.block) : ∀ {cs : List Value} {l : List (Int × Nw)}, ItemC w T cs l → ItemC w T (cs ++ [.int .i64 k, .slice D x.1.length c, .int .i64 (x.2 : Int)]) (l ++ [(k, x)])
  | [], [], _ => ⟨rfl, ⟨D, c, rfl, hc, hb, hD⟩, rfl, trivial⟩
  | a :: b :: c :: s, p :: t, h => ⟨h.1, h.2.1, h.2.2.1, ItemC.snoc hc hb hD h.2.2.2⟩
  | [], _ :: _, h => by unfold ItemC at h; exact h.elim
  | [_], [], h => by unfold ItemC at h; exact h.elim
  | [_], _ :: _, h => by unfold ItemC at h; exact h.elim
  | [_, _], [], h => by unfold ItemC at h; exact h.elim
  | [_, _], _ :: _, h => by unfold ItemC at h; exact h.elim
  | _ :: _ :: _ :: _, [], h => by unfold ItemC at h; exact h.elim
/-- a row of those that wait. -/
def ItemR (w : World) (T : Nat → Prop) (v : Value) (l : List (Int × Nw)) : Prop := ∃ cs, w.ownsRow 0 65 3 v l.length cs ∧ ItemC w T cs l
/-- the document's queue. -/
structure RefQ (w : World) (r : Nat) (most : Int) (v : Value) (R : List (Int × Nw)) (T : Nat → Prop) : Prop where
  row : w.heap[r]? = some (.cells #[.int .i64 most, v] 49 (0, 0))
  items : ItemR w T v R
  ok : OkQ R
  sep : ∀ g, T g → g < w.heap.size ∧ g ≠ r ∧ v.ownBlock ≠ some g
theorem byt_T {w w' : World} {T : Nat → Prop} {D : Option Addr} {l : List UInt8} (h : Byt w w.heap.size D l) (hk : ∀ i, T i → i < w.heap.size → w'.heap[i]? = w.heap[i]?) (hs : w.heap.size ≤ w'.heap.size) (hD : ∀ x, D = some x → T x.block) : Byt w' w'.heap.size D l := fun hp => by
  obtain ⟨b, off, e, hb, hc⟩ := h hp
  refine ⟨b, off, e, Nat.lt_of_lt_of_le hb hs, fun i hi => ?_⟩
  have h1 := hc i hi
  unfold World.cell? at h1 ⊢
  rw [hk b (hD _ e) hb]; exact h1
theorem ItemR.keep {w w' : World} {T T' : Nat → Prop} {v : Value} {l : List (Int × Nw)} (h : ItemR w T v l) (hk : ∀ i, T i ∨ v.ownBlock = some i → i < w.heap.size → w'.heap[i]? = w.heap[i]?) (hs : w.heap.size ≤ w'.heap.size) (hT : ∀ g, T g → T' g) : ItemR w' T' v l := by
  obtain ⟨cs, h1, h2⟩ := h
  refine ⟨cs, ⟨h1.1, ?_⟩, h2.mono hT (fun D m hb hD => byt_T hb (fun i hi => hk i (.inl hi)) hs hD)⟩
  rcases h1.2 with ⟨e1, h0⟩ | ⟨g, cap, cur, e1, hb, hg, hr⟩
  · exact .inl ⟨e1, h0⟩
  · exact .inr ⟨g, cap, cur, e1, hb, (hk g (.inr (by rw [e1]; rfl)) (Array.getElem?_eq_some_iff.1 hg).1).trans hg, hr⟩
theorem RefQ.keep {w w' : World} {r : Nat} {most : Int} {v : Value} {R : List (Int × Nw)} {T : Nat → Prop} (h : RefQ w r most v R T) (hk : ∀ i, i = r ∨ T i ∨ v.ownBlock = some i → i < w.heap.size → w'.heap[i]? = w.heap[i]?) (hs : w.heap.size ≤ w'.heap.size) : RefQ w' r most v R T :=
  ⟨(hk r (.inl rfl) (Array.getElem?_eq_some_iff.1 h.row).1).trans h.row, h.items.keep (fun i hi => hk i (.inr hi)) hs (fun _ hg => hg), h.ok, fun g hg => ⟨Nat.lt_of_lt_of_le (h.sep g hg).1 hs, (h.sep g hg).2⟩⟩
theorem RefQ.below {w w' : World} {r B : Nat} {most : Int} {v : Value} {R : List (Int × Nw)} {T : Nat → Prop} (h : RefQ w r most v R T) (hb : Below B w w') (hB : w.heap.size ≤ B) : RefQ w' r most v R T :=
  h.keep (fun i _ hi => hb.block i (by omega)) hb.size
theorem ItemR.slice {w : World} {T : Nat → Prop} {v : Value} {l : List (Int × Nw)} (h : ItemR w T v l) : ∃ A c, v = .slice A l.length c ∧ l.length ≤ c ∧ (0 < l.length → ∃ b, A = some ⟨b, 0, none⟩ ∧ b < w.heap.size ∧ ∀ j (hj : j < l.length), w.cell? ⟨b, j * 3, none⟩ = some (.int .i64 l[j].1) ∧
    (∃ D c, w.cell? ⟨b, j * 3 + 1, none⟩ = some (.slice D l[j].2.1.length c) ∧ l[j].2.1.length ≤ c ∧ Byt w w.heap.size D l[j].2.1 ∧ ∀ x, D = some x → T x.block) ∧ w.cell? ⟨b, j * 3 + 2, none⟩ = some (.int .i64 (l[j].2.2 : Int))) := by
  obtain ⟨cs, h1, h2⟩ := h
  rcases h1.2 with ⟨rfl, h0⟩ | ⟨g, cap, cur, rfl, hb, hg, hn, hm, hsz, ht⟩
  · exact ⟨none, 0, by rw [h0], by omega, fun hp => by omega⟩
  · refine ⟨_, cap, rfl, hn, fun _ => ⟨g, rfl, (Array.getElem?_eq_some_iff.1 hg).1, fun j hj => ?_⟩⟩
    obtain ⟨e1, ⟨D, c, e2, e3, e4⟩, e5⟩ := h2.get j hj
    have hcell : ∀ i, i < l.length * 3 → w.cell? ⟨g, i, none⟩ = cs[i]? := fun i hi => by
      rw [cell_of_row w g i _ _ (0, 0) hg, ← ht, List.getElem?_take, if_pos hi]
      exact (Array.getElem?_toList ..).symm
    exact ⟨(hcell _ (by omega)).trans e1, ⟨D, c, (hcell _ (by omega)).trans e2, e3, e4⟩, (hcell _ (by omega)).trans e5⟩
/-- where a key stands. -/
def posQ (k : Int) : List (Int × Nw) → Option Nat
  | [] => none
  | p :: t => if k = p.1 then some 0 else (posQ k t).map (· + 1)
def posI (R : List (Int × Nw)) (k : Int) : Int := match posQ k R with | some i => (i : Int) | none => -1
theorem posQ_some {k : Int} : ∀ {R : List (Int × Nw)} {i : Nat}, posQ k R = some i → ∃ h : i < R.length, R[i].1 = k ∧ lookQ k R = some R[i].2 ∧ ∀ x, putQ k x R = R.set i (k, x)
  | [], i, h => by cases h
  | p :: t, i, h => by
    unfold posQ at h
    unfold lookQ putQ
    split at h
    · next e => cases h; exact ⟨by simp, by simp [e], by rw [if_pos e]; rfl, fun x => by rw [if_pos e]; rfl⟩
    · next e =>
      cases h2 : posQ k t with
      | none => rw [h2] at h; cases h
      | some j =>
        rw [h2] at h
        cases h
        obtain ⟨a, b, c, d⟩ := posQ_some h2
        refine ⟨by simp; omega, by simpa using b, by rw [if_neg e]; simpa using c, fun x => by rw [if_neg e, d x]; rfl⟩
theorem posQ_none {k : Int} : ∀ {R : List (Int × Nw)}, posQ k R = none → lookQ k R = none ∧ ∀ x, putQ k x R = R ++ [(k, x)]
  | [], _ => ⟨rfl, fun _ => rfl⟩
  | p :: t, h => by
    unfold posQ at h
    unfold lookQ putQ
    split at h
    · cases h
    · next e =>
      cases h2 : posQ k t with
      | some j => rw [h2] at h; cases h
      | none =>
        obtain ⟨a, b⟩ := posQ_none h2
        exact ⟨by rw [if_neg e]; exact a, fun x => by rw [if_neg e, b x]; rfl⟩
theorem posQ_skip {k : Int} : ∀ {R : List (Int × Nw)} {j : Nat}, (∀ i (h : i < R.length), i < j → R[i].1 ≠ k) → ∀ hj : j < R.length, R[j].1 = k → posQ k R = some j
  | [], j, _, hj, _ => absurd hj (by simp)
  | p :: t, 0, _, hj, e => by unfold posQ; rw [if_pos (by simpa using e.symm)]
  | p :: t, j + 1, h, hj, e => by
    unfold posQ
    have h0 := h 0 (by simp) (by omega)
    rw [if_neg (fun e2 => h0 (by simpa using e2.symm)), posQ_skip (j := j) (fun i hi hij => by have := h (i + 1) (by simp; omega) (by omega); simpa using this) (by simpa using hj) (by simpa using e)]
    rfl
theorem posQ_all {k : Int} : ∀ {R : List (Int × Nw)}, (∀ i (h : i < R.length), R[i].1 ≠ k) → posQ k R = none
  | [], _ => rfl
  | p :: t, h => by
    unfold posQ
    have h0 := h 0 (by simp)
    rw [if_neg (fun e2 => h0 (by simpa using e2.symm)), posQ_all (R := t) (fun i hi => by have := h (i + 1) (by simp; omega); simpa using this)]
    rfl
set_option maxHeartbeats 2000000 in
theorem findR_any (w : World) (r : Nat) (most : Int) (v : Value) (R : List (Int × Nw)) (T : Nat → Prop) (k : Int) (h : RefQ w r most v R T) (hl : R.length ≤ 4096) :
    Calls Try.prog 28 #[.pointer (some ⟨r, 0, none⟩), .int .i64 k] w fun e w' => e = .returned (.int .i64 (posI R k)) ∧ w' = w := by
  obtain ⟨A, c, rfl, hcl, hcell⟩ := h.items.slice
  have c1 : w.cell? ⟨r, 1, none⟩ = some (.slice A R.length c) := (cell_of_row w r 1 _ _ (0, 0) h.row).trans rfl
  obtain ⟨n, hn⟩ : ∃ n, n = R.length := ⟨_, rfl⟩
  rw [← hn] at c1 hl
  have HN := hide hn
  have HC := hide hcell
  have HR : Hid (∀ z : Int, z = posI R k → Ending.returned (.int .i64 z) = Ending.returned (.int .i64 (posI R k))) := hide (fun z hz => by rw [hz])
  clear h hcell hn hcl
  go_enter Try.func28, Try.ntmps28
  go_wp2
  go_loopw [5] (fun i wr => ∃ j : Nat, j ≤ n ∧ i = .int .i64 (j : Int) ∧ wr = w ∧ Hid (∀ i (hi : i < R.length), i < j → R[i].1 ≠ k)) (fun i _ => n - (Go.RowKit.intOf i).toNat)
  case atStart => exact ⟨0, by omega, rfl, rfl, hide (fun i _ hh => absurd hh (by omega))⟩
  case round =>
    obtain ⟨j, hj, rfl, rfl, hI⟩ := hrel
    by_cases hlt : j < n
    · have hjl : j < R.length := by rw [← HN.out]; exact hlt
      obtain ⟨b, rfl, hbB, hcell⟩ := HC.out (by omega)
      obtain ⟨d0, -, -⟩ := hcell j hjl
      have hji : (j : Int) < (n : Int) := by omega
      obtain ⟨x, hx⟩ : ∃ x, x = R[j].1 := ⟨_, rfl⟩
      rw [← hx] at d0
      have HX := hide hx
      clear hcell hx
      by_cases hk : x = k
      · have hkb : (x == k) = true := by simp [hk]
        have HE : Hid ((j : Int) = posI R k) := hide (by unfold posI; rw [posQ_skip hI.out hjl (by rw [← HX.out]; exact hk)])
        clear hk
        go_wp2
        go_ret
        exact ⟨HR.out _ HE.out, rfl⟩
      · have hkb : (x == k) = false := by simpa using hk
        have HI2 : Hid (∀ i (hi : i < R.length), i < j + 1 → R[i].1 ≠ k) := hide (fun i hi hij => by
          rcases Nat.lt_succ_iff_lt_or_eq.1 hij with h | h
          · exact hI.out i hi h
          · subst h; rw [← HX.out]; exact hk)
        clear hk hI
        go_wp2
        go_roundw
        case rel => exact ⟨j + 1, by omega, by go_num, trivial, HI2⟩
        case measure => simp [Go.RowKit.intOf]; omega
    · obtain rfl : j = n := by omega
      have HE : Hid (-1 = posI R k) := hide (by unfold posI; rw [posQ_all (fun i hi => hI.out i hi (by rw [HN.out]; exact hi))])
      go_wp2
      go_ret
      exact ⟨HR.out _ HE.out, rfl⟩
end Go.Proofs.Ytajpibopknpmmaa
