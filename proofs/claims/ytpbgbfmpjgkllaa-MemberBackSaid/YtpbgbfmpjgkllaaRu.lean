/-
  What a Reader's methods answer, whether an error stays or not; two Readers side by side, the program's and the document's own.
-/
import Derived.Test.YtpbgbfmpjgkllaaEr
import Derived.Test.YtpbgbfmpjgkllaaRq
namespace Go.Proofs.Ytpbgbfmpjgkllaa
open Go.RowKit
set_option maxRecDepth 100000
set_option linter.unusedVariables false

theorem numQ_zero (l : List UInt8) (k : Nat) (m : Int) : numQ l k 0 m = ((numR l k m).1, (numR l k m).2.1, ((numR l k m).2.2 : Int)) := by unfold numQ; rw [if_neg (by simp)]
theorem numQ_err {l : List UInt8} {k : Nat} {er m : Int} (h : er ≠ 0) : numQ l k er m = (k, 0, er) := by unfold numQ; rw [if_pos h]
theorem fitE_err {er : Int} {ok : Bool} {len k : Nat} {m : Int} (h : er ≠ 0) : fitE er ok len k m = er := by unfold fitE; rw [if_pos h]
theorem takeQ_err {l : List UInt8} {k : Nat} {er m : Int} (h : er ≠ 0) : takeQ l k er m = (k, [], er) := by unfold takeQ; rw [fitE_err h, if_neg h]
theorem zeroQ_err {l : List UInt8} {k : Nat} {er m : Int} (h : er ≠ 0) : zeroQ l k er m = (k, er) := by unfold zeroQ; rw [fitE_err h, if_neg h]
theorem skipQ_err {l : List UInt8} {k : Nat} {er m : Int} (h : er ≠ 0) : skipQ l k er m = (k, er) := by unfold skipQ; rw [takeQ_err h]
theorem numQ_le {l : List UInt8} {k : Nat} {er m : Int} (hk : k ≤ l.length) : (numQ l k er m).1 ≤ l.length := by
  by_cases h : er = 0
  · subst h
    rcases num_piece l k m with ⟨N, j, hp, e⟩ | ⟨er, _, _, e⟩
    · rw [e]; exact pieceS_le hp hk
    · rw [e]; exact hk
  · rw [numQ_err h]; exact hk
theorem takeQ_le {l : List UInt8} {k : Nat} {er m : Int} (hk : k ≤ l.length) : (takeQ l k er m).1 ≤ l.length := by
  by_cases h : er = 0
  · subst h
    rcases take_cases l k m with ⟨j, rfl, hj, e⟩ | ⟨_, e⟩ | ⟨_, _, e⟩
    · rw [e]; show k + j ≤ _; omega
    · rw [e]; exact hk
    · rw [e]; exact hk
  · rw [takeQ_err h]; exact hk
theorem zeroQ_le {l : List UInt8} {k : Nat} {er m : Int} (hk : k ≤ l.length) : (zeroQ l k er m).1 ≤ l.length := by
  by_cases h : er = 0
  · subst h
    rcases zero_cases l k m with ⟨j, rfl, hj, e⟩ | ⟨_, e⟩ | ⟨_, _, e⟩
    · rw [e]; split
      · show k + j ≤ _; omega
      · exact hk
    · rw [e]; exact hk
    · rw [e]; exact hk
  · rw [zeroQ_err h]; exact hk

/-- the program's Reader at block g, of the bytes l. -/
structure RdS (g : Nat) (A : Option Addr) (l : List UInt8) (c : Nat) (w : World) (k : Nat) (er : Int) : Prop where
  rd : Rd w g A l.length c k er
  by' : Byt w g A l
  le : k ≤ l.length
/-- the document's own at block g, its bytes at or behind block B. -/
structure RrS (g B : Nat) (A : Option Addr) (l : List UInt8) (c : Nat) (w : World) (k : Nat) (er : Int) : Prop where
  rr : Rr w g A l.length c k er
  by' : Byt w g A l
  le : k ≤ l.length
  far : ∀ a, A = some a → B ≤ a.block
theorem RdS.keep {g g2 : Nat} {A : Option Addr} {l : List UInt8} {c k : Nat} {er : Int} {w w' : World} (h : RdS g A l c w k er) (hg : w.grownBy w' (some g2)) (hlt : g < g2) : RdS g A l c w' k er :=
  ⟨h.rd.grown hg (by simp; omega), fun hl => by
    obtain ⟨b, off, e, hb, hc⟩ := h.by' hl
    exact ⟨b, off, e, hb, fun i hi => hg.cell (hc i hi) (by simp; omega)⟩, h.le⟩
theorem RrS.keep {g g2 B : Nat} {A : Option Addr} {l : List UInt8} {c k : Nat} {er : Int} {w w' : World} (h : RrS g2 B A l c w k er) (hg : w.grownBy w' (some g)) (hlt : g < B) (hlt2 : g < g2) : RrS g2 B A l c w' k er :=
  ⟨h.rr.grown hg (by simp; omega), fun hl => by
    obtain ⟨b, off, e, hb, hc⟩ := h.by' hl
    have := h.far _ e
    exact ⟨b, off, e, hb, fun i hi => hg.cell (hc i hi) (by simp at this ⊢; omega)⟩, h.le, h.far⟩
theorem RdS.below {g : Nat} {A : Option Addr} {l : List UInt8} {c k : Nat} {er : Int} {w w' : World} (h : RdS g A l c w k er) (hb : Below w.heap.size w w') : RdS g A l c w' k er :=
  ⟨h.rd.kept (hb.block g h.rd.lt), h.by'.below (hb.mono (Nat.le_of_lt h.rd.lt)), h.le⟩
theorem RrS.below {g B : Nat} {A : Option Addr} {l : List UInt8} {c k : Nat} {er : Int} {w w' : World} (h : RrS g B A l c w k er) (hb : Below w.heap.size w w') : RrS g B A l c w' k er :=
  ⟨h.rr.kept (hb.block g h.rr.lt), h.by'.below (hb.mono (Nat.le_of_lt h.rr.lt)), h.le, h.far⟩

section
variable {g g2 B c k : Nat} {A : Option Addr} {l : List UInt8} {er : Int}
theorem numU (W : World) (m : Int) (h : RdS g A l c W k er) (hl : l.length ≤ c) (hn : l.length ≤ 140737488420864) : Calls Try.prog 51 #[.pointer (some ⟨g, 0, none⟩), .int .i64 m] W fun e w' => e = .returned (.int .u64 ((numQ l k er m).2.1 : Int)) ∧ RdS g A l c w' (numQ l k er m).1 (numQ l k er m).2.2 ∧ W.grownBy w' (some g) := by
  by_cases he : er = 0
  · subst he
    rw [numQ_zero]
    refine (rnum_any W g A l c k m h.rd h.le hl hn h.by').mono fun e w' ⟨h1, h2, h3⟩ => ⟨h1, ⟨h2, h.by'.row h3, ?_⟩, h3⟩
    have := numQ_le (er := 0) (m := m) h.le
    rwa [numQ_zero] at this
  · rw [numQ_err he]
    exact (rnum_err W _ er m (ErrIs.rd h.rd he)).mono fun e w' ⟨h1, h2⟩ => ⟨h1, h.below h2, Below.row h2 _⟩
theorem numV (W : World) (m : Int) (h : RrS g B A l c W k er) (hl : l.length ≤ c) (hn : l.length ≤ 140737488355328) : Calls Try.prog 55 #[.pointer (some ⟨g, 0, none⟩), .int .i64 m] W fun e w' => e = .returned (.int .u64 ((numQ l k er m).2.1 : Int)) ∧ RrS g B A l c w' (numQ l k er m).1 (numQ l k er m).2.2 ∧ W.grownBy w' (some g) :=
  (numq_any W g A l c k er m h.rr h.le hl hn h.by').mono fun e w' ⟨h1, h2, h3⟩ => ⟨h1, ⟨h2, h.by'.row h3, numQ_le h.le, h.far⟩, h3⟩
end

set_option maxHeartbeats 1000000 in
theorem newS (w : World) (B : Nat) (A : Option Addr) (l : List UInt8) (c : Nat) (hn : l.length ≤ 140737488420864) (hb : Byt w B A l) (hB : B ≤ w.heap.size) :
    Calls Try.prog 50 #[.slice A l.length c] w fun e w' => ∃ g A' c', e = .returned (.pointer (some ⟨g, 0, none⟩)) ∧ RdS g A' l c' w' 0 0 ∧ l.length ≤ c' ∧ (∀ a, A' = some a → w.heap.size ≤ a.block) ∧ w.heap.size ≤ g ∧ Below w.heap.size w w' := by
  go_enter Try.func50, Try.ntmps50
  go_wp2_with fail
  refine (clone_any w B A l c hn hb hB).mono ?_
  rintro e w1 ⟨v, rfl, hown, hb1⟩
  obtain ⟨A', c', rfl, hl', hby, _, hat⟩ := hown.shape
  go_wp2
  go_ret
  exact ⟨w1.heap.size, A', c', rfl, ⟨⟨heap_alloc_new w1 _⟩, hby.keep (fun p hp => World.cell?_alloc_lt w1 _ p hp), Nat.zero_le _⟩, hl', fun a e => (hat a e).1, hb1.size, hb1.alloc hb1.size _⟩
set_option maxHeartbeats 1000000 in
theorem ofS (w : World) (B : Nat) (A : Option Addr) (l : List UInt8) (c : Nat) (hn : l.length ≤ 140737488355328) (hb : Byt w B A l) (hB : B ≤ w.heap.size) (hnil : A = none → c = 0) :
    Calls Try.prog 54 #[.slice A l.length c] w fun e w' => ∃ g A' c', e = .returned (.pointer (some ⟨g, 0, none⟩)) ∧ RrS g w.heap.size A' l c' w' 0 0 ∧ l.length ≤ c' ∧ (A' = none → c' = 0) ∧ w.heap.size ≤ g ∧ Below w.heap.size w w' := by
  go_enter Try.func54, Try.ntmps54
  go_wp2_with (at_builtin; refine wpList_app_bytes rfl (.tmp 4) (.tmp 5) rfl w.heap.size (.slice none 0 0) [] l B c A rfl rfl (OwnB.nil _ _) hb hnil (by simp; omega) (Nat.le_refl _) ?_)
  intro v1 w1 hown hg1 hat1
  obtain ⟨A', c', hv, hl', hby, hnil', hat⟩ := hown.shape
  subst hv
  have hb1 : Below w.heap.size w w1 := (Below.refl _ _).grown hg1 (Nat.le_refl _) (fun k hk => by simp [Value.ownBlock] at hk)
  go_wp2
  go_ret
  exact ⟨w1.heap.size, A', c', rfl, ⟨⟨heap_alloc_new w1 _⟩, hby.keep (fun p hp => World.cell?_alloc_lt w1 _ p hp), Nat.zero_le _, fun a e => (hat a e).1⟩, hl', hnil', hb1.size, hb1.alloc hb1.size _⟩
end Go.Proofs.Ytpbgbfmpjgkllaa
