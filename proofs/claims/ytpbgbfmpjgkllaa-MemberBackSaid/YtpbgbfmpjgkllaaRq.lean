/-
  The walk of the document's own Run.
-/
import Derived.Test.YtpbgbfmpjgkllaaRt
import Derived.Test.YtpbgbfmpjgkllaaApp2
import Derived.Deep.CutBlock
namespace Go.Proofs.Ytpbgbfmpjgkllaa
open Go.RowKit
set_option maxRecDepth 100000
set_option linter.unusedVariables false

/-- the slice value vv owns, from block 'base' on, a row of things that were read, in the document's own form. -/
structure OwnW (w : World) (base : Nat) (vv : Value) (l : List VItem) : Prop where
  row : w.ownsRow base 92 2 vv l.length (itemCells l)
  each : ∀ it ∈ l, OwnB w base it.v it.b

theorem OwnW.base {w : World} {B B' : Nat} {vv : Value} {items : List VItem} (h : OwnW w B vv items) (hB : B' ≤ B) : OwnW w B' vv items := by
  refine ⟨⟨h.row.1, ?_⟩, fun it hit => (h.each it hit).base hB⟩
  rcases h.row.2 with e | ⟨g, cap, cur, e, hb, rest⟩
  · exact .inl e
  · exact .inr ⟨g, cap, cur, e, Nat.le_trans hB hb, rest⟩
theorem OwnW.drewN {w : World} {B : Nat} {vv : Value} {items : List VItem} (h : OwnW w B vv items) (k : Nat) : OwnW (w.drewN k) B vv items := ⟨h.row, h.each⟩
theorem num_piece (l : List UInt8) (k : Nat) (sz : Int) : (∃ N m, pieceS l k 0 sz = .got N [] m ∧ numQ l k 0 sz = (k + m, N, 0)) ∨ (∃ er : Nat, er ≠ 0 ∧ pieceS l k 0 sz = .gave er ∧ numQ l k 0 sz = (k, 0, (er : Int))) := by
  have e : numQ l k 0 sz = ((numR l k sz).1, (numR l k sz).2.1, ((numR l k sz).2.2 : Int)) := by unfold numQ; rw [if_neg (by simp)]
  rw [e]
  unfold numR
  rcases hp : pieceS l k 0 sz with ⟨N, b, m⟩ | er
  · have hb : b = [] := by
      unfold pieceS at hp
      rw [if_pos rfl] at hp
      repeat' split at hp
      all_goals cases hp
      rfl
    subst hb
    exact .inl ⟨N, m, rfl, rfl⟩
  · exact .inr ⟨er, pieceS_gave hp, rfl, rfl⟩
theorem take_piece (l : List UInt8) (k : Nat) (sz : Int) : (∃ m, pieceS l k 1 sz = .got 0 ((l.drop k).take m) m ∧ pieceS l k 2 sz = .got 0 [] m ∧ takeQ l k 0 sz = (k + m, (l.drop k).take m, 0)) ∨ (∃ er : Nat, er ≠ 0 ∧ pieceS l k 1 sz = .gave er ∧ pieceS l k 2 sz = .gave er ∧ takeQ l k 0 sz = (k, [], (er : Int))) := by
  unfold takeQ fitE pieceS
  by_cases h0 : sz < 0
  · refine .inr ⟨1, by decide, ?_⟩
    simp [h0, show ¬ 0 ≤ sz by omega]
  · by_cases h1 : sz ≤ (l.length : Int) - k
    · refine .inl ⟨sz.toNat, ?_⟩
      simp [h0, h1, show 0 ≤ sz by omega, show ¬ ((l.length : Int) - k < sz) by omega]
    · refine .inr ⟨10, by decide, ?_⟩
      simp [h0, h1, show 0 ≤ sz by omega, show ((l.length : Int) - k < sz) by omega]
theorem zero_piece (l : List UInt8) (k : Nat) (sz : Int) : (∃ m, pieceS l k 3 sz = .got 0 [] m ∧ zeroQ l k 0 sz = (k + m, 0)) ∨ (∃ er : Nat, er ≠ 0 ∧ pieceS l k 3 sz = .gave er ∧ zeroQ l k 0 sz = (k, (er : Int))) := by
  unfold zeroQ fitE pieceS
  by_cases h0 : sz < 0
  · refine .inr ⟨1, by decide, ?_⟩
    simp [h0, show ¬ 0 ≤ sz by omega]
  · by_cases h1 : sz ≤ (l.length : Int) - k
    · by_cases h2 : ((l.drop k).take sz.toNat).all (fun x => x == 0) = true
      · refine .inl ⟨sz.toNat, ?_⟩
        rw [if_neg (by decide), if_neg (by decide), if_neg (by decide), if_pos rfl, if_neg h0, if_pos h1, if_pos h2]
        refine ⟨rfl, ?_⟩
        rw [if_pos (by rw [if_neg (by simp), if_neg (by simp; omega), if_neg (by omega)]), if_pos h2]
      · refine .inr ⟨11, by decide, ?_⟩
        rw [if_neg (by decide), if_neg (by decide), if_neg (by decide), if_pos rfl, if_neg h0, if_pos h1, if_neg h2]
        refine ⟨rfl, ?_⟩
        rw [if_pos (by rw [if_neg (by simp), if_neg (by simp; omega), if_neg (by omega)]), if_neg h2]; rfl
    · refine .inr ⟨10, by decide, ?_⟩
      simp [h0, h1, show 0 ≤ sz by omega, show ((l.length : Int) - k < sz) by omega]
theorem rest_piece (l : List UInt8) (k : Nat) (hk : k ≤ l.length) : pieceS l k 4 0 = .got 0 (l.drop k) (l.length - k) ∧ takeQ l k 0 ((l.length : Int) - (k : Int)) = (k + (l.length - k), l.drop k, 0) := by
  constructor
  · rfl
  · unfold takeQ fitE
    have e : ((l.length : Int) - (k : Int)).toNat = l.length - k := by omega
    rw [if_pos (by simp; omega), e, List.take_of_length_le (by rw [List.length_drop]; exact Nat.le_refl _)]

/-- what a piece leaves in the walk of the document's own Run. -/
def SwQ (l : List UInt8) (k : Nat) (kd sz : Int) (g : Nat) (A' : Option Addr) (c' : Nat) (wr wx : World) : Prop :=
  ∃ (N : Nat) (v : Value) (b : List UInt8) (k' : Nat) (er' : Int), wx.heap[wr.heap.size]? = some (.cells #[.int .u64 (N : Int), v] 92 (0, 0)) ∧ Rr wx g A' l.length c' k' er' ∧ k' ≤ l.length ∧ OwnB wx wr.heap.size v b ∧ wr.grownBy wx (some g) ∧
    ((er' = 0 ∧ ∃ m, k' = k + m ∧ pieceS l k kd sz = .got N b m) ∨ (∃ er : Nat, er ≠ 0 ∧ er' = (er : Int) ∧ k' = k ∧ pieceS l k kd sz = .gave er))
theorem sw_set {wr w7 : World} {g V i : Nat} (h : wr.grownBy w7 (some g)) (hV : wr.heap.size ≤ V) (u : Value) : wr.grownBy (w7.setCell ⟨V, i, none⟩ u) (some g) :=
  ⟨h.os, h.tape, h.output, by simpa using h.size, fun n hn hr => (Below.heap_setCell w7 ⟨V, i, none⟩ u n (by show n ≠ V; omega)).trans (h.block n hn hr)⟩
theorem sw_own {w7 : World} {B V i : Nat} {v u : Value} {b : List UInt8} (h : OwnB w7 B v b) (hV : V < B) : OwnB (w7.setCell ⟨V, i, none⟩ u) B v b := h.kept (grown_set w7 V i u) (by
  rcases h.2 with ⟨e, _⟩ | ⟨g', cap, cur, e, hbg, _⟩
  · exact .inl (by rw [e]; rfl)
  · exact .inr (by rw [e]; simp [Value.ownBlock]; omega))

end Go.Proofs.Ytpbgbfmpjgkllaa
