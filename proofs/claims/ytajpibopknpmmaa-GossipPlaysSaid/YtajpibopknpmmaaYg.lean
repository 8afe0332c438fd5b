/-
  The program's queue and the document's side by side: what each call leaves of both.
-/
import Derived.Test.YtajpibopknpmmaaYf
import Derived.Test.YtajpibopknpmmaaYs
namespace Go.Proofs.Ytajpibopknpmmaa
open Go.RowKit
set_option maxRecDepth 100000
set_option linter.unusedVariables false
set_option linter.unusedSimpArgs false

/-- both queues, apart from one another. -/
structure BothS (w : World) (q mb r : Nat) (most : Int) (v : Value) (L R : List (Int × Nw)) (S T : Nat → Prop) : Prop where
  que : QueS w q mb most L S
  ref : RefQ w r most v R T
  len : (L.length : Int) ≤ most ∧ (R.length : Int) ≤ most ∧ most ≤ 4096
  sS : ∀ g, S g → g < w.heap.size ∧ g ≠ mb ∧ g ≠ r ∧ v.ownBlock ≠ some g ∧ ¬ T g
  sT : ∀ g, T g → g ≠ q ∧ g ≠ mb
  sv : ∀ g, v.ownBlock = some g → g < w.heap.size ∧ g ≠ q ∧ g ≠ mb
  sr : r ≠ q ∧ r ≠ mb
/-- a block that is neither one's. -/
def FreeB (w : World) (q mb r : Nat) (v : Value) (S T : Nat → Prop) (g : Nat) : Prop := g < w.heap.size ∧ ¬ S g ∧ ¬ T g ∧ g ≠ q ∧ g ≠ mb ∧ g ≠ r ∧ v.ownBlock ≠ some g
/-- what a call leaves alone: all that is neither one's. -/
structure StepB (w w' : World) (q mb r : Nat) (v v' : Value) (S S' T T' : Nat → Prop) : Prop where
  os : w'.os = w.os
  tape : w'.tape = w.tape
  output : w'.output = w.output
  size : w.heap.size ≤ w'.heap.size
  free : ∀ g, FreeB w q mb r v S T g → FreeB w' q mb r v' S' T' g ∧ w'.heap[g]? = w.heap[g]?
theorem FreeB.out {w : World} {q mb r : Nat} {v : Value} {S T : Nat → Prop} {g : Nat} (h : FreeB w q mb r v S T g) : g ≠ mb ∧ g ≠ r ∧ v.ownBlock ≠ some g := ⟨h.2.2.2.2.1, h.2.2.2.2.2.1, h.2.2.2.2.2.2⟩
theorem BothS.below {w w' : World} {q mb r : Nat} {most : Int} {v : Value} {L R : List (Int × Nw)} {S T : Nat → Prop} (h : BothS w q mb r most v L R S T) (b : Below w.heap.size w w') : BothS w' q mb r most v L R S T ∧ StepB w w' q mb r v v S S T T :=
  ⟨⟨h.que.below b (Nat.le_refl _), h.ref.below b (Nat.le_refl _), h.len, fun g hg => ⟨Nat.lt_of_lt_of_le (h.sS g hg).1 b.size, (h.sS g hg).2⟩, h.sT, fun g hg => ⟨Nat.lt_of_lt_of_le (h.sv g hg).1 b.size, (h.sv g hg).2⟩, h.sr⟩,
    b.os, b.tape, b.output, b.size, fun g hg => ⟨⟨Nat.lt_of_lt_of_le hg.1 b.size, hg.2⟩, b.block g hg.1⟩⟩
/-- a block that is neither one's is written. -/
theorem BothS.spoil {w w' : World} {q mb r g : Nat} {most : Int} {v : Value} {L R : List (Int × Nw)} {S T : Nat → Prop} (h : BothS w q mb r most v L R S T) (hf : FreeB w q mb r v S T g) (b : w.grownBy w' (some g)) : BothS w' q mb r most v L R S T := by
  refine ⟨h.que.keep (fun i hi hl => b.block i hl (fun e => ?_)) b.size (fun _ hg => hg), h.ref.keep (fun i hi hl => b.block i hl (fun e => ?_)) b.size, h.len, fun x hx => ⟨Nat.lt_of_lt_of_le (h.sS x hx).1 b.size, (h.sS x hx).2⟩, h.sT, fun x hx => ⟨Nat.lt_of_lt_of_le (h.sv x hx).1 b.size, (h.sv x hx).2⟩, h.sr⟩
  · cases e
    rcases hi with e | e | e
    · exact hf.2.2.2.1 e
    · exact hf.2.2.2.2.1 e
    · exact hf.2.1 e
  · cases e
    rcases hi with e | e | e
    · exact hf.2.2.2.2.2.1 e
    · exact hf.2.2.1 e
    · exact hf.2.2.2.2.2.2 e
theorem StepB.trans {w w' w'' : World} {q mb r : Nat} {v v' v'' : Value} {S S' S'' T T' T'' : Nat → Prop} (h : StepB w w' q mb r v v' S S' T T') (h' : StepB w' w'' q mb r v' v'' S' S'' T' T'') : StepB w w'' q mb r v v'' S S'' T T'' :=
  ⟨h'.os.trans h.os, h'.tape.trans h.tape, h'.output.trans h.output, Nat.le_trans h.size h'.size, fun g hg => ⟨(h'.free g (h.free g hg).1).1, ((h'.free g (h.free g hg).1).2).trans (h.free g hg).2⟩⟩
theorem len_putL (most : Int) (L : List (Int × Nw)) (k : Int) (d : List UInt8) (t : Int) (h : (L.length : Int) ≤ most) : ((putL most L k d t).length : Int) ≤ most := by
  unfold putL
  split
  · next e =>
    rw [len_putQ]
    split
    · exact h
    · next hh =>
      by_cases hm : most ≤ (L.length : Int)
      · exfalso
        unfold putE fullQ at e
        rw [Bool.eq_false_iff.2 hh] at e
        split at e
        · exact absurd e (by decide)
        · rw [if_pos (by simp [hm])] at e
          exact absurd e (by decide)
      · omega
  · exact h
/-- the program's Put. -/
theorem putq_B (w : World) (q mb r : Nat) (most : Int) (v : Value) (L R : List (Int × Nw)) (S T : Nat → Prop) (k : Int) (d : List UInt8) (A : Option Addr) (c : Nat) (t : Int) (h : BothS w q mb r most v L R S T) (hk : -9223372036854775808 ≤ k ∧ k ≤ 9223372036854775807)
    (hd : Byt w w.heap.size A d) (hdl : d.length ≤ 140737488355328) :
    Calls Try.prog 12 #[.pointer (some ⟨q, 0, none⟩), .int .i64 k, .slice A d.length c, .int .i64 t] w fun e w' => e = .returned (.int .i64 (putE most L k d t)) ∧ ∃ S', BothS w' q mb r most v (putL most L k d t) R S' T ∧ StepB w w' q mb r v v S S' T T := by
  refine (putQ_any w q mb most L S k d A c t h.que (fun g hg => ⟨(h.sS g hg).1, (h.sS g hg).2.1⟩) hk hd hdl).mono fun e w' hh => ?_
  obtain ⟨he, hq, hg⟩ := hh
  have hsr := h.sr
  refine ⟨he, _, ⟨hq, h.ref.keep (fun i hi hl => hg.block i hl (fun e => ?_)) hg.size, ⟨len_putL _ _ _ _ _ h.len.1, h.len.2⟩, fun g hgs => ?_, h.sT, fun x hx => ⟨Nat.lt_of_lt_of_le (h.sv x hx).1 hg.size, (h.sv x hx).2⟩, h.sr⟩, hg.os, hg.tape, hg.output, hg.size, fun g hf => ⟨⟨Nat.lt_of_lt_of_le hf.1 hg.size, fun hgs => ?_, hf.2.2⟩, hg.block g hf.1 (fun e => hf.out.1 (by cases e; rfl))⟩⟩
  · cases e
    rcases hi with e | e | e
    · exact hsr.2 e.symm
    · exact (h.sT _ e).2 rfl
    · exact (h.sv _ e).2.2 rfl
  · rcases hgs with hgs | hgs
    · exact ⟨Nat.lt_of_lt_of_le (h.sS g hgs).1 hg.size, (h.sS g hgs).2⟩
    · have hrl := (Array.getElem?_eq_some_iff.1 h.ref.row).1
      have hml := h.que.lt.2
      refine ⟨by omega, by omega, by omega, fun e => by have := (h.sv g e).1; omega, fun e => by have := (h.ref.sep g e).1; omega⟩
  · rcases hgs with hgs | hgs
    · exact hf.2.1 hgs
    · have := hf.1; omega
/-- the document's Put. -/
theorem putr_B (w : World) (q mb r : Nat) (most : Int) (v : Value) (L R : List (Int × Nw)) (S T : Nat → Prop) (k : Int) (d : List UInt8) (A : Option Addr) (c : Nat) (t : Int) (h : BothS w q mb r most v L R S T) (hk : -9223372036854775808 ≤ k ∧ k ≤ 9223372036854775807)
    (hd : Byt w w.heap.size A d) (hdl : d.length ≤ 140737488351232) :
    Calls Try.prog 13 #[.pointer (some ⟨r, 0, none⟩), .int .i64 k, .slice A d.length c, .int .i64 t] w fun e w' => e = .returned (.int .i64 (putE most R k d t)) ∧ ∃ v' T', BothS w' q mb r most v' L (putL most R k d t) S T' ∧ StepB w w' q mb r v v' S S T T' := by
  have hlen := h.len
  refine (putR_any w r most v R T k d A c t h.ref (by omega) hk hd hdl).mono fun e w' hh => ?_
  obtain ⟨he, v', T', hq, hT, hk2, hv⟩ := hh
  have hql := h.que.lt
  refine ⟨he, v', T', ⟨h.que.keep (fun i hi hl => hk2.block i hl ?_ ?_) hk2.size (fun _ hg => hg), hq, ⟨h.len.1, len_putL _ _ _ _ _ h.len.2.1, h.len.2.2⟩, fun g hg => ?_, fun g hg => ?_, fun g hg => ?_, h.sr⟩, hk2.os, hk2.tape, hk2.output, hk2.size, fun g hf => ⟨⟨Nat.lt_of_lt_of_le hf.1 hk2.size, hf.2.1, fun hg => ?_, hf.2.2.2.1, hf.2.2.2.2.1, hf.2.2.2.2.2.1, fun hg => ?_⟩, hk2.block g hf.1 hf.out.2.1 hf.out.2.2⟩⟩
  · rintro rfl
    rcases hi with e | e | e
    · exact h.sr.1 e
    · exact h.sr.2 e
    · exact (h.sS _ e).2.2.1 rfl
  · intro e2
    rcases hi with e | e | e
    · exact (h.sv i e2).2.1 e
    · exact (h.sv i e2).2.2 e
    · exact (h.sS _ e).2.2.2.1 e2
  · have hs := h.sS g hg
    refine ⟨Nat.lt_of_lt_of_le hs.1 hk2.size, hs.2.1, hs.2.2.1, fun e => ?_, fun e => ?_⟩
    · rcases hv with hv | hv
      · exact hs.2.2.2.1 (by rw [← hv]; exact e)
      · have := hv g e; omega
    · rcases hT g e with e | e
      · exact hs.2.2.2.2 e
      · omega
  · rcases hT g hg with e | e
    · exact h.sT g e
    · omega
  · have hlt := World.ownsRow.lt hq.items.choose_spec.1 g hg
    rcases hv with hv | hv
    · have := h.sv g (by rw [← hv]; exact hg)
      exact ⟨hlt.2, this.2⟩
    · have := hv g hg
      exact ⟨hlt.2, by omega, by omega⟩
  · rcases hT g hg with e | e
    · exact hf.2.2.1 e
    · have := hf.1; omega
  · rcases hv with hv | hv
    · exact hf.out.2.2 (by rw [← hv]; exact hg)
    · have := hv g hg; have := hf.1; omega
/-- the program's Pick. -/
theorem pickq_B (w : World) (q mb r : Nat) (most : Int) (v : Value) (L R : List (Int × Nw)) (S T : Nat → Prop) (room : Int) (h : BothS w q mb r most v L R S T) (hroom : -9223372036854775808 ≤ room ∧ room ≤ 9223372036854775807) :
    Calls Try.prog 16 #[.pointer (some ⟨q, 0, none⟩), .int .i64 room] w fun e w' => ∃ x, e = .returned x ∧ NewsR w' w.heap.size x (tellQ L room).1 ∧ BothS w' q mb r most v (tellQ L room).2 R S T ∧ StepB w w' q mb r v v S S T T := by
  have hlen := h.len
  have hl2 : (tellQ L room).2.length ≤ L.length := (len_pickQ _ room L).1
  refine (pickQ_any w q mb most L S room h.que (by omega) (fun g hg => ⟨(h.sS g hg).1, (h.sS g hg).2.1⟩) hroom).mono fun e w' hh => ?_
  obtain ⟨x, he, hn, hq, hg⟩ := hh
  have hsr := h.sr
  refine ⟨x, he, hn, ⟨hq, h.ref.keep (fun i hi hl => hg.block i hl (fun e => ?_)) hg.size, ⟨by omega, h.len.2⟩, fun x hx => ⟨Nat.lt_of_lt_of_le (h.sS x hx).1 hg.size, (h.sS x hx).2⟩, h.sT, fun x hx => ⟨Nat.lt_of_lt_of_le (h.sv x hx).1 hg.size, (h.sv x hx).2⟩, h.sr⟩, hg.os, hg.tape, hg.output, hg.size, fun g hf => ⟨⟨Nat.lt_of_lt_of_le hf.1 hg.size, hf.2⟩, hg.block g hf.1 (fun e => hf.out.1 (by cases e; rfl))⟩⟩
  cases e
  rcases hi with e | e | e
  · exact hsr.2 e.symm
  · exact (h.sT _ e).2 rfl
  · exact (h.sv _ e).2.2 rfl
/-- the document's Pick. -/
theorem pickr_B (w : World) (q mb r : Nat) (most : Int) (v : Value) (L R : List (Int × Nw)) (S T : Nat → Prop) (room : Int) (h : BothS w q mb r most v L R S T) (hroom : -9223372036854775808 ≤ room ∧ room ≤ 9223372036854775807) (hlr : ((pickD (ordD R) room).2.length : Int) ≤ most) :
    Calls Try.prog 19 #[.pointer (some ⟨r, 0, none⟩), .int .i64 room] w fun e w' => ∃ ov v', e = .returned ov ∧ NwsR w' 0 63 ov (pickD (ordD R) room).1 ∧ BothS w' q mb r most v' L (pickD (ordD R) room).2 S T ∧ StepB w w' q mb r v v' S S T T := by
  have hlen := h.len
  refine (pickR_any w r most v R T room h.ref (by omega) hroom).mono fun e w' hh => ?_
  obtain ⟨ov, v', he, hn, hq, hk2, hv⟩ := hh
  have hql := h.que.lt
  refine ⟨ov, v', he, hn, ⟨h.que.keep (fun i hi hl => hk2.block i hl ?_ ?_) hk2.size (fun _ hg => hg), hq, ⟨h.len.1, hlr, h.len.2.2⟩, fun g hg => ?_, h.sT, fun g hg => ?_, h.sr⟩, hk2.os, hk2.tape, hk2.output, hk2.size, fun g hf => ⟨⟨Nat.lt_of_lt_of_le hf.1 hk2.size, hf.2.1, hf.2.2.1, hf.2.2.2.1, hf.2.2.2.2.1, hf.2.2.2.2.2.1, fun hg => ?_⟩, hk2.block g hf.1 hf.out.2.1 hf.out.2.2⟩⟩
  · rintro rfl
    rcases hi with e | e | e
    · exact h.sr.1 e
    · exact h.sr.2 e
    · exact (h.sS _ e).2.2.1 rfl
  · intro e2
    rcases hi with e | e | e
    · exact (h.sv i e2).2.1 e
    · exact (h.sv i e2).2.2 e
    · exact (h.sS _ e).2.2.2.1 e2
  · have hs := h.sS g hg
    exact ⟨Nat.lt_of_lt_of_le hs.1 hk2.size, hs.2.1, hs.2.2.1, fun e => by have := hv g e; omega, hs.2.2.2.2⟩
  · have hlt := World.ownsRow.lt hq.items.choose_spec.1 g hg
    have := hv g hg
    exact ⟨hlt.2, by omega, by omega⟩
  · have := hv g hg; have := hf.1; omega
end Go.Proofs.Ytajpibopknpmmaa
