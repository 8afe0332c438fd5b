/-
  What was told by the program's queue is taken, held against the document's, and spoilt.
-/
import Derived.Test.YtajpibopknpmmaaYh
namespace Go.Proofs.Ytajpibopknpmmaa
open Go.RowKit
set_option maxRecDepth 100000
set_option linter.unusedVariables false
set_option linter.unusedSimpArgs false

/-- another one, behind writes to the first one's block alone. -/
theorem OwnY.other {w w' : World} {base : Nat} {v v2 : Value} {n n2 : Nat} (h : OwnY w base v n) (h' : OwnY w' base v n) (hg : w.grownBy w' v.ownBlock) (h2 : OwnY w base v2 n2) : OwnY w' base v2 n2 := by
  rcases h2 with h2 | ⟨g2, cap2, cur2, rfl, hb2, hg2, hn2, hs2, hm2⟩
  · exact .inl h2
  · by_cases e : v.ownBlock = some g2
    · rcases h with ⟨rfl, _⟩ | ⟨g, cap, cur, rfl, hb, hgg, hn, hs, hm⟩
      · simp [Value.ownBlock] at e
      · rcases h' with ⟨h', _⟩ | ⟨g', cap', cur', h', hb', hgg', hn', hs', hm'⟩
        · cases h'
        · simp only [Value.slice.injEq, Option.some.injEq, Addr.mk.injEq, and_true, true_and] at h'
          obtain ⟨rfl, rfl⟩ := h'
          simp [Value.ownBlock] at e
          subst e
          rw [hgg] at hg2
          injection hg2 with hg2
          injection hg2 with e1
          subst e1
          exact .inr ⟨g, cap2, cur', rfl, hb2, hgg', hn2, by omega, hm2⟩
    · exact .inr ⟨g2, cap2, cur2, rfl, hb2, (hg.block g2 (Array.getElem?_eq_some_iff.1 hg2).1 (fun e2 => e e2.symm)).trans hg2, hn2, hs2, hm2⟩


theorem OwnY.keep {w w' : World} {base : Nat} {v : Value} {n : Nat} (h : OwnY w base v n) (hk : ∀ i, base ≤ i → i < w.heap.size → w'.heap[i]? = w.heap[i]?) : OwnY w' base v n := by
  rcases h with h | ⟨g, cap, cur, rfl, hb, hg, hr⟩
  · exact .inl h
  · exact .inr ⟨g, cap, cur, rfl, hb, (hk g hb (Array.getElem?_eq_some_iff.1 hg).1).trans hg, hr⟩
theorem NewsC.getB {w : World} {base : Nat} : ∀ {cs : List Value} {l : List (Int × List UInt8)}, NewsC w base cs l → ∀ j (hj : j < l.length), ∃ u, cs[j * 2 + 1]? = some u ∧ OwnB w base u l[j].2
  | [], [], _, j, hj => absurd hj (by simp)
  | a :: b :: s, p :: t, h, 0, hj => ⟨b, rfl, h.2.1⟩
  | a :: b :: s, p :: t, h, j + 1, hj => by
    obtain ⟨u, h1, h2⟩ := NewsC.getB h.2.2 j (by simpa using hj)
    exact ⟨u, by rw [show (j + 1) * 2 + 1 = j * 2 + 1 + 1 + 1 by omega]; simpa using h1, by simpa using h2⟩
  | [], _ :: _, h, _, _ => h.elim
  | [_], _, h, _, _ => by unfold NewsC at h; exact h.elim
  | _ :: _ :: _, [], h, _, _ => h.elim
/-- what was told, each one's bytes its own, in blocks from base on. -/
def XsP (X : World) (base hi : Nat) (A : Option Addr) (nl : Nat) : Prop :=
  0 < nl → ∃ b, A = some ⟨b, 0, none⟩ ∧ base ≤ b ∧ (∃ cur, X.heap[b]? = some (.cells cur 44 (0, 0))) ∧ ∀ j, j < nl → ∃ D n c, X.cell? ⟨b, j * 2 + 1, none⟩ = some (.slice D n c) ∧ OwnY X base (.slice D n c) n ∧ ∀ g, (Value.slice D n c).ownBlock = some g → g < hi
theorem NewsR.xs {X : World} {base : Nat} {A : Option Addr} {c : Nat} {l : List (Int × List UInt8)} (h : NewsR X base (.slice A l.length c) l) : XsP X base X.heap.size A l.length := by
  obtain ⟨cs, h1, h2⟩ := h
  intro hp
  rcases h1.2 with ⟨e, h0⟩ | ⟨g, cap, cur, e, hb, hg, hn, hm, hsz, ht⟩
  · omega
  · simp only [Value.slice.injEq] at e
    obtain ⟨rfl, -, -⟩ := e
    refine ⟨g, rfl, hb, ⟨cur, hg⟩, fun j hj => ?_⟩
    obtain ⟨u, hu, ho⟩ := h2.getB j hj
    obtain ⟨D, cc, rfl, -⟩ := ho.shape
    refine ⟨D, _, cc, ?_, ho.y, fun g hg => (World.ownsRow.lt ho g hg).2⟩
    rw [cell_of_row X g _ _ _ (0, 0) hg, ← hu, ← ht, List.getElem?_take, if_pos (by omega)]
    exact (Array.getElem?_toList ..).symm
theorem XsP.keep {X X' : World} {base hi : Nat} {A : Option Addr} {nl : Nat} (h : XsP X base hi A nl) (hk : ∀ i, base ≤ i → i < X.heap.size → X'.heap[i]? = X.heap[i]?) : XsP X' base hi A nl := fun hp => by
  obtain ⟨b, e, hb, ⟨cur, hc⟩, hj⟩ := h hp
  have hbl := hk b hb (Array.getElem?_eq_some_iff.1 hc).1
  refine ⟨b, e, hb, ⟨cur, hbl.trans hc⟩, fun j hjn => ?_⟩
  obtain ⟨D, n, c, h1, h2, h3⟩ := hj j hjn
  refine ⟨D, n, c, ?_, h2.keep hk, h3⟩
  unfold World.cell? at h1 ⊢
  rw [hbl]; exact h1
/-- one's bytes are spoilt. -/
theorem XsP.spoil {X X' : World} {base hi : Nat} {A D : Option Addr} {nl n c : Nat} (h : XsP X base hi A nl) (ho : OwnY X base (.slice D n c) n) (ho' : OwnY X' base (.slice D n c) n) (hg : X.grownBy X' (Value.slice D n c).ownBlock) : XsP X' base hi A nl := fun hp => by
  obtain ⟨b, e, hb, ⟨cur, hc⟩, hj⟩ := h hp
  have hne : (Value.slice D n c).ownBlock ≠ some b := fun e2 => by
    rcases ho with ⟨h1, _⟩ | ⟨g, cap, cu, h1, _, h2, _⟩
    · rw [h1] at e2; cases e2
    · rw [h1] at e2
      have : g = b := by simpa [Value.ownBlock] using e2
      rw [this, hc] at h2
      injection h2 with h3
      injection h3 with _ h4
      exact absurd h4 (by decide)
  have hbl := hg.block b (Array.getElem?_eq_some_iff.1 hc).1 (fun e2 => hne e2.symm)
  refine ⟨b, e, hb, ⟨cur, hbl.trans hc⟩, fun j hjn => ?_⟩
  obtain ⟨D2, n2, c2, h1, h2, h3⟩ := hj j hjn
  refine ⟨D2, n2, c2, ?_, ho.other ho' hg h2, h3⟩
  unfold World.cell? at h1 ⊢
  rw [hbl]; exact h1
theorem NwsS.keep {w w' : World} {base : Nat} {A : Option Addr} {l : List (Int × List UInt8)} (h : NwsS w base A l) (hk : ∀ i, base ≤ i → i < w.heap.size → w'.heap[i]? = w.heap[i]?) (hs : w.heap.size ≤ w'.heap.size) : NwsS w' base A l := fun hp => by
  obtain ⟨b, e, hlt, hle, hc⟩ := h hp
  have hh : w'.heap[b]? = w.heap[b]? := hk b hle hlt
  have hcell : ∀ o, w'.cell? ⟨b, o, none⟩ = w.cell? ⟨b, o, none⟩ := fun o => by unfold World.cell?; rw [hh]
  refine ⟨b, e, Nat.lt_of_lt_of_le hlt hs, hle, fun j hj => ?_⟩
  obtain ⟨h1, D, c, h2, h3, h4, h5⟩ := hc j hj
  exact ⟨(hcell _).trans h1, D, c, (hcell _).trans h2, h3, byt_T (T := fun i => base ≤ i) h4 hk hs h5, h5⟩
section
variable {w X X' : World} {q mb r : Nat} {most : Int} {v v' : Value} {L R L' R' : List (Int × Nw)} {S T S' T' : Nat → Prop} {Kp Kp' : Nat → Obj → Prop}
/-- all blocks from base on, as they are at X. -/
def allK (X : World) (base : Nat) (g : Nat) (o : Obj) : Prop := base ≤ g ∧ X.heap[g]? = some o
theorem PlI.addB {base : Nat} (h : PlI w X q mb r most v L R S T (fun g o => Kp g o ∨ allK X base g o)) (b : Below X.heap.size X X') : PlI w X' q mb r most v L R S T (fun g o => Kp g o ∨ allK X' base g o) := by
  have h1 := h.mono b
  refine ⟨h1.both, h1.below, h1.free, fun g o hg => ?_⟩
  rcases hg with hg | ⟨hbg, ho⟩
  · exact h1.kept g o (.inl hg)
  · by_cases hgx : g < X.heap.size
    · exact h1.kept g o (.inr ⟨hbg, (b.block g hgx).symm.trans ho⟩)
    · have hq := h.both.que.lt
      have hr := (Array.getElem?_eq_some_iff.1 h.both.ref.row).1
      exact ⟨⟨(Array.getElem?_eq_some_iff.1 ho).1, fun e => by have := (h.both.sS g e).1; omega, fun e => by have := (h.both.ref.sep g e).1; omega, by omega, by omega, by omega, fun e => by have := (h.both.sv g e).1; omega⟩, ho⟩
theorem PlI.toK {base : Nat} {Z Z' : World} (h : PlI w X q mb r most v L R S T (fun g o => Kp g o ∨ allK Z' base g o)) (b : Below Z.heap.size Z Z') : PlI w X q mb r most v L R S T (fun g o => Kp g o ∨ allK Z base g o) :=
  h.weak (fun g O hg => hg.imp id (fun h2 => ⟨h2.1, (b.block g (Array.getElem?_eq_some_iff.1 h2.2).1).trans h2.2⟩))
theorem PlI.keepK {base : Nat} {Z : World} (h : PlI w X q mb r most v L R S T (fun g o => Kp g o ∨ allK Z base g o)) : ∀ i, base ≤ i → i < Z.heap.size → X.heap[i]? = Z.heap[i]? := fun i hb hi => by
  have e := Array.getElem?_eq_getElem hi
  rw [e]
  exact (h.kept i _ (.inr ⟨hb, e⟩)).2
/-- the program's Pick. -/
theorem pick_q_step {t : Int} {l : List (Int × List UInt8)} {nl : Nat} (h : PlI w X q mb r most v L R S T Kp) (ht : -9223372036854775808 ≤ t ∧ t ≤ 9223372036854775807) (hl : l = (tellQ L t).1) (hnl : nl = l.length) :
    Calls Try.prog 16 #[.pointer (some ⟨q, 0, none⟩), .int .i64 t] X fun e X' => ∃ A c, e = .returned (.slice A nl c) ∧ NwsS X' X.heap.size A l ∧ XsP X' X.heap.size X'.heap.size A nl ∧ X.heap.size ≤ X'.heap.size ∧ PlI w X' q mb r most v (tellQ L t).2 R S T (fun g o => Kp g o ∨ allK X' X.heap.size g o) := by
  subst hnl
  subst hl
  refine (pickq_B X q mb r most v L R S T t h.both ht).mono fun e X' hh => ?_
  obtain ⟨x, he, hn, hb, hs⟩ := hh
  obtain ⟨A, c, rfl, -, hS⟩ := hn.nws.slice
  have h1 := h.step hb hs
  refine ⟨A, c, he, hS, hn.xs, hs.size, h1.both, h1.below, h1.free, fun g o hg => ?_⟩
  rcases hg with hg | ⟨hbg, ho⟩
  · exact h1.kept g o hg
  · have hq := h.both.que.lt
    have hr := (Array.getElem?_eq_some_iff.1 h.both.ref.row).1
    exact ⟨⟨(Array.getElem?_eq_some_iff.1 ho).1, fun e => by have := (h.both.sS g e).1; omega, fun e => by have := (h.both.ref.sep g e).1; omega, by omega, by omega, by omega, fun e => by have := (h.both.sv g e).1; omega⟩, ho⟩
/-- the document's Pick. -/
theorem pick_r_step {t : Int} {l : List (Int × List UInt8)} {nl : Nat} {R2 : List (Int × Nw)} (h : PlI w X q mb r most v L R S T Kp) (ht : -9223372036854775808 ≤ t ∧ t ≤ 9223372036854775807) (hl : l = (pickD (ordD R) t).1) (hnl : nl = l.length) (hR : R2 = (pickD (ordD R) t).2) (hlr : (R2.length : Int) ≤ most) :
    Calls Try.prog 19 #[.pointer (some ⟨r, 0, none⟩), .int .i64 t] X fun e X' => ∃ A c v', e = .returned (.slice A nl c) ∧ NwsS X' 0 A l ∧ X.heap.size ≤ X'.heap.size ∧ PlI w X' q mb r most v' L R2 S T Kp := by
  subst hnl
  subst hl
  subst hR
  refine (pickr_B X q mb r most v L R S T t h.both ht hlr).mono fun e X' hh => ?_
  obtain ⟨ov, v', he, hn, hb, hs⟩ := hh
  obtain ⟨A, c, rfl, -, hS⟩ := hn.slice
  exact ⟨A, c, v', he, hS, hs.size, h.step hb hs⟩
/-- one that was told is spoilt. -/
theorem spoil_x_step {base n c : Nat} {D : Option Addr} (h : PlI w X q mb r most v L R S T Kp) (ho : OwnY X base (.slice D n c) n) (hw : w.heap.size ≤ base) (hF : ∀ g, base ≤ g → (Value.slice D n c).ownBlock = some g → FreeB X q mb r v S T g) (hK : ∀ i O, Kp i O → i < base) :
    Calls Try.prog 15 #[.slice D n c] X fun e X' => e = .returned (.tuple #[]) ∧ PlI w X' q mb r most v L R S T Kp ∧ X.grownBy X' (Value.slice D n c).ownBlock ∧ OwnY X' base (.slice D n c) n := by
  refine (spoilY_any X base D n c ho).mono fun e X' hh => ?_
  obtain ⟨he, hg, ho'⟩ := hh
  refine ⟨he, ?_, hg, ho'⟩
  cases hb : (Value.slice D n c).ownBlock with
  | none =>
    rw [hb] at hg
    exact h.mono ⟨hg.os, hg.tape, hg.output, hg.size, fun i hi => hg.block i hi (by simp)⟩
  | some g =>
    rw [hb] at hg
    have hbg : base ≤ g := by
      rcases ho with ⟨h1, _⟩ | ⟨g', cap, cu, h1, h2, _⟩
      · rw [h1] at hb; cases hb
      · rw [h1] at hb
        have : g' = g := by simpa [Value.ownBlock] using hb
        omega
    exact h.spoil (hF g hbg hb) (by omega) hg (fun i O hi => ⟨hi, by have := hK i O hi; omega⟩)
end
end Go.Proofs.Ytajpibopknpmmaa
