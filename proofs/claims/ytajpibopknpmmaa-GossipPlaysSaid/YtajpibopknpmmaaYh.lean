/-
  What always holds while the law plays both queues, and what each call of the law does to it.
-/
import Derived.Test.YtajpibopknpmmaaYg
namespace Go.Proofs.Ytajpibopknpmmaa
open Go.RowKit
set_option maxRecDepth 100000
set_option linter.unusedVariables false
set_option linter.unusedSimpArgs false

/-- both queues, all that was there before, and some blocks that are kept. -/
structure PlI (w X : World) (q mb r : Nat) (most : Int) (v : Value) (L R : List (Int × Nw)) (S T : Nat → Prop) (Kp : Nat → Obj → Prop) : Prop where
  both : BothS X q mb r most v L R S T
  below : Below w.heap.size w X
  free : ∀ g, g < w.heap.size → FreeB X q mb r v S T g
  kept : ∀ g O, Kp g O → FreeB X q mb r v S T g ∧ X.heap[g]? = some O
section
variable {w X X' : World} {q mb r : Nat} {most : Int} {v v' : Value} {L R L' R' : List (Int × Nw)} {S T S' T' : Nat → Prop} {Kp Kp' : Nat → Obj → Prop}
theorem PlI.step (h : PlI w X q mb r most v L R S T Kp) (hb : BothS X' q mb r most v' L' R' S' T') (hs : StepB X X' q mb r v v' S S' T T') : PlI w X' q mb r most v' L' R' S' T' Kp :=
  ⟨hb, ⟨hs.os.trans h.below.os, hs.tape.trans h.below.tape, hs.output.trans h.below.output, Nat.le_trans h.below.size hs.size, fun g hg => ((hs.free g (h.free g hg)).2).trans (h.below.block g hg)⟩, fun g hg => (hs.free g (h.free g hg)).1,
    fun g O hg => ⟨(hs.free g (h.kept g O hg).1).1, ((hs.free g (h.kept g O hg).1).2).trans (h.kept g O hg).2⟩⟩
theorem PlI.mono (h : PlI w X q mb r most v L R S T Kp) (b : Below X.heap.size X X') : PlI w X' q mb r most v L R S T Kp := h.step (h.both.below b).1 (h.both.below b).2
theorem PlI.weak (h : PlI w X q mb r most v L R S T Kp) (hK : ∀ g O, Kp' g O → Kp g O) : PlI w X q mb r most v L R S T Kp' := ⟨h.both, h.below, h.free, fun g O hg => h.kept g O (hK g O hg)⟩
/-- a block that is new is neither one's. -/
theorem PlI.add (h : PlI w X q mb r most v L R S T Kp) (b : Below X.heap.size X X') (B : Nat) (O : Obj) (hB : X.heap.size ≤ B) (hO : X'.heap[B]? = some O) : PlI w X' q mb r most v L R S T (fun g o => Kp g o ∨ (g = B ∧ o = O)) := by
  have h1 := h.mono b
  refine ⟨h1.both, h1.below, h1.free, fun g o hg => ?_⟩
  rcases hg with hg | ⟨rfl, rfl⟩
  · exact h1.kept g o hg
  · have hq := h.both.que.lt
    have hr := (Array.getElem?_eq_some_iff.1 h.both.ref.row).1
    exact ⟨⟨(Array.getElem?_eq_some_iff.1 hO).1, fun e => by have := (h.both.sS g e).1; omega, fun e => by have := (h.both.ref.sep g e).1; omega, by omega, by omega, by omega, fun e => by have := (h.both.sv g e).1; omega⟩, hO⟩
/-- a kept block is written, and is kept no longer. -/
theorem PlI.spoil (h : PlI w X q mb r most v L R S T Kp) {g : Nat} (hf : FreeB X q mb r v S T g) (hw : w.heap.size ≤ g) (b : X.grownBy X' (some g)) (hK : ∀ i O, Kp' i O → Kp i O ∧ i ≠ g) : PlI w X' q mb r most v L R S T Kp' := by
  refine ⟨h.both.spoil hf b, ⟨b.os.trans h.below.os, b.tape.trans h.below.tape, b.output.trans h.below.output, Nat.le_trans h.below.size b.size, fun i hi => (b.block i (by have := h.below.size; omega) (fun e => by cases e; omega)).trans (h.below.block i hi)⟩, fun i hi => ⟨Nat.lt_of_lt_of_le (h.free i hi).1 b.size, (h.free i hi).2⟩, fun i O hi => ?_⟩
  obtain ⟨hk, hne⟩ := hK i O hi
  obtain ⟨a1, a2⟩ := h.kept i O hk
  exact ⟨⟨Nat.lt_of_lt_of_le a1.1 b.size, a1.2⟩, (b.block i a1.1 (fun e => hne (by cases e; rfl))).trans a2⟩
theorem AlikeQ.putE (h : AlikeQ L R) (most : Int) (k : Int) (d : List UInt8) (t : Int) : Go.Proofs.Ytajpibopknpmmaa.putE most R k d t = Go.Proofs.Ytajpibopknpmmaa.putE most L k d t := by
  unfold Go.Proofs.Ytajpibopknpmmaa.putE fullQ hasQ
  rw [h.look, h.len]
theorem AlikeQ.putL (h : AlikeQ L R) (most : Int) (k : Int) (d : List UInt8) (t : Int) (hk : -9223372036854775808 ≤ k ∧ k ≤ 9223372036854775807) (hd : d.length ≤ 140737488355328) : AlikeQ (Go.Proofs.Ytajpibopknpmmaa.putL most L k d t) (Go.Proofs.Ytajpibopknpmmaa.putL most R k d t) := by
  have he := h.putE most k d t
  unfold Go.Proofs.Ytajpibopknpmmaa.putL
  rw [he]
  split
  · next e =>
    unfold Go.Proofs.Ytajpibopknpmmaa.putE at e
    split at e
    · exact absurd e (by decide)
    · exact h.put k (d, t.toNat) ⟨hk, by dsimp only; omega, hd, by dsimp only; omega, by dsimp only; omega⟩
  · exact h
/-- the block of what was lent. -/
def lentO (d : List UInt8) : Obj := .cells (markRow d 8).toArray 5 (0, 0)
theorem put_q_step {o m : Nat} {k t : Int} {d : List UInt8} (h : PlI w X q mb r most v L R S T Kp) (ho : Kp o (lentO d)) (hm : m = d.length) (hk : -9223372036854775808 ≤ k ∧ k ≤ 9223372036854775807) (hd : d.length ≤ 140737488351232) :
    Calls Try.prog 12 #[.pointer (some ⟨q, 0, none⟩), .int .i64 k, .slice (some ⟨o, 0, none⟩) m (m + 8), .int .i64 t] X fun e X' => e = .returned (.int .i64 (putE most L k d t)) ∧ ∃ S', PlI w X' q mb r most v (putL most L k d t) R S' T Kp := by
  subst hm
  have hL : Lentd X o d := (h.kept _ _ ho).2
  refine (putq_B X q mb r most v L R S T k d (some ⟨o, 0, none⟩) (d.length + 8) t h.both hk (hL.byt hL.lt) (by omega)).mono fun e X' hh => ?_
  obtain ⟨he, S', hb, hs⟩ := hh
  exact ⟨he, S', h.step hb hs⟩
theorem put_r_step {m c : Nat} {D : Option Addr} {k t E : Int} {d : List UInt8} (h : PlI w X q mb r most v L R S T Kp) (hb : Byt w w.heap.size D d) (hm : m = d.length) (hk : -9223372036854775808 ≤ k ∧ k ≤ 9223372036854775807) (hd : d.length ≤ 140737488351232) (hE : putE most R k d t = E) :
    Calls Try.prog 13 #[.pointer (some ⟨r, 0, none⟩), .int .i64 k, .slice D m c, .int .i64 t] X fun e X' => e = .returned (.int .i64 E) ∧ ∃ v' T', PlI w X' q mb r most v' L (putL most R k d t) S T' Kp := by
  subst hm
  subst hE
  refine (putr_B X q mb r most v L R S T k d D c t h.both hk ((hb.below h.below).more h.below.size) hd).mono fun e X' hh => ?_
  obtain ⟨he, v', T', hb, hs⟩ := hh
  exact ⟨he, v', T', h.step hb hs⟩
theorem kept_step {o m c : Nat} {D : Option Addr} {d : List UInt8} (h : PlI w X q mb r most v L R S T Kp) (ho : Kp o (lentO d)) (hm : m = d.length) (hb : Byt w w.heap.size D d) (hd : d.length ≤ 140737488351232) (hc : d.length ≤ c) :
    Calls Try.prog 14 #[.slice (some ⟨o, 0, none⟩) m (m + 8), .slice D m c] X fun e X' => e = .returned (.bool true) ∧ X = X' := by
  subst hm
  have hL : Lentd X o d := (h.kept _ _ ho).2
  exact kept_any D c o d X.heap.size X hc (by omega) ((hb.below h.below).more h.below.size) hL
theorem spoil_step {o m : Nat} {d : List UInt8} (h : PlI w X q mb r most v L R S T Kp) (ho : Kp o (lentO d)) (hw : w.heap.size ≤ o) (hm : m = d.length) (hd : d.length ≤ 140737488351232) (hK : ∀ i O, Kp' i O → Kp i O ∧ i ≠ o) :
    Calls Try.prog 15 #[.slice (some ⟨o, 0, none⟩) m (m + 8)] X fun e X' => e = .returned (.tuple #[]) ∧ PlI w X' q mb r most v L R S T Kp' := by
  subst hm
  obtain ⟨hf, hL⟩ := h.kept _ _ ho
  refine (spoilY_any X 0 (some ⟨o, 0, none⟩) d.length (d.length + 8) (.inr ⟨o, d.length + 8, _, rfl, Nat.zero_le _, hL, by omega, by simp [length_markRow], by unfold maxLen; omega⟩)).mono fun e X' hh => ?_
  obtain ⟨he, hg, -⟩ := hh
  exact ⟨he, h.spoil hf hw hg hK⟩
end
end Go.Proofs.Ytajpibopknpmmaa
