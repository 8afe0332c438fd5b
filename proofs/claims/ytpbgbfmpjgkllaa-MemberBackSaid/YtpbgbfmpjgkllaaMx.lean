/-
  What some bytes are as how each one is seen (mathematics), and rows of that.
-/
import Derived.Test.YtpbgbfmpjgkllaaMt
import Derived.Test.YtpbgbfmpjgkllaaRu
import Derived.Test.YtpbgbfmpjgkllaaOr
namespace Go.Proofs.Ytpbgbfmpjgkllaa
open Go.RowKit
set_option maxRecDepth 100000
set_option linter.unusedVariables false
set_option linter.unusedSimpArgs false

theorem numQ_lt (l : List UInt8) (k : Nat) (er : Int) (m : Nat) (h1 : 1 ≤ m) (h8 : m ≤ 8) (hk : k ≤ l.length) : (numQ l k er (m : Int)).2.1 < 256 ^ m := by
  have hp : 0 < 256 ^ m := Nat.pow_pos (by decide)
  by_cases he : er = 0
  · subst he
    by_cases hf : k + m ≤ l.length
    · rw [numQ_yes h1 h8 hf]
      have := numS_lt ((l.drop k).take m)
      rw [List.length_take, List.length_drop, Nat.min_eq_left (by omega)] at this
      exact this
    · rw [numQ_no hk (by unfold fitE; rw [if_neg (by simp)]; have : (decide (1 ≤ (m : Int)) && decide ((m : Int) ≤ 8)) = true := by simp; omega
                         rw [this, if_neg (by simp), if_pos (by omega)]; decide)]
      exact hp
  · rw [numQ_err he]; exact hp
/-- a Reader at work: where it is, its error, what has come. -/
structure StR where
  k : Nat
  er : Int
  acc : List (Int × Int)
def stepR (l : List UInt8) (s : StR) : StR :=
  ⟨(numQ l (numQ l s.k s.er 1).1 (numQ l s.k s.er 1).2.2 6).1, (numQ l (numQ l s.k s.er 1).1 (numQ l s.k s.er 1).2.2 6).2.2, s.acc ++ [(((numQ l s.k s.er 1).2.1 : Int), ((numQ l (numQ l s.k s.er 1).1 (numQ l s.k s.er 1).2.2 6).2.1 : Int))]⟩
def runR (l : List UInt8) : Nat → StR
  | 0 => ⟨(numQ l 0 0 1).1, (numQ l 0 0 1).2.2, []⟩
  | j + 1 => stepR l (runR l j)
theorem runR_len (l : List UInt8) : ∀ j, (runR l j).acc.length = j
  | 0 => rfl
  | j + 1 => by
    show ((runR l j).acc ++ [_]).length = j + 1
    rw [List.length_append, runR_len l j]; rfl
theorem runR_le (l : List UInt8) : ∀ j, (runR l j).k ≤ l.length
  | 0 => numQ_le (Nat.zero_le _)
  | j + 1 => numQ_le (numQ_le (runR_le l j))
/-- the first error stays. -/
theorem stepR_err {l : List UInt8} {s : StR} (h : s.er ≠ 0) : (stepR l s).er = s.er := by
  unfold stepR
  simp only [numQ_err h]
theorem runR_err {l : List UInt8} {j : Nat} (h : (runR l j).er ≠ 0) : ∀ d, (runR l (j + d)).er = (runR l j).er
  | 0 => rfl
  | d + 1 => by
    have := runR_err h d
    show (stepR l (runR l (j + d))).er = _
    rw [stepR_err (by rw [this]; exact h), this]
theorem endS_err {n k : Nat} {er : Int} (h : er ≠ 0) : endS n k er = er := by unfold endS; rw [if_pos h]
/-- how many there are said to be. -/
def cntR (l : List UInt8) : Nat := (numQ l 0 0 1).2.1
def endR (l : List UInt8) : Int := endS l.length (runR l (cntR l)).k (runR l (cntR l)).er
theorem endR_early {l : List UInt8} {j : Nat} (hj : j ≤ cntR l) (h : (runR l j).er ≠ 0) : endS l.length (runR l j).k (runR l j).er = endR l := by
  have := runR_err h (cntR l - j)
  rw [show j + (cntR l - j) = cntR l by omega] at this
  unfold endR
  rw [endS_err h, endS_err (by rw [this]; exact h), this]
theorem cntR_lt (l : List UInt8) : cntR l < 256 := by
  have := numQ_lt l 0 0 1 (by decide) (by decide) (Nat.zero_le _)
  simpa [cntR] using this
def allR (l : List (Int × Int)) : Bool := decide (1 ≤ l.length) && (decide (l.length ≤ 16) && l.all rightI)
/-- what Read answers. -/
def resL (l : List UInt8) : List (Int × Int) := if endR l ≠ 0 then [] else if allR (runR l (cntR l)).acc = true then (runR l (cntR l)).acc else []
def resE (l : List UInt8) : Int := if endR l ≠ 0 then endR l else if allR (runR l (cntR l)).acc = true then 0 else 11
/-- rows of how some are seen. -/
def infC (l : List (Int × Int)) : List Value := l.flatMap fun p => [.int .i64 p.1, .int .i64 p.2]
theorem infC_snoc (l : List (Int × Int)) (p : Int × Int) : infC (l ++ [p]) = infC l ++ [.int .i64 p.1, .int .i64 p.2] := by simp [infC]
theorem infC_len (l : List (Int × Int)) : (infC l).length = l.length * 2 := by
  induction l with
  | nil => rfl
  | cons a l ih => rw [infC, List.flatMap_cons, ← infC, List.length_append, ih]; simp; omega
theorem infC_get : ∀ (l : List (Int × Int)) (j : Nat) (h : j < l.length), (infC l)[j * 2]? = some (.int .i64 l[j].1) ∧ (infC l)[j * 2 + 1]? = some (.int .i64 l[j].2)
  | [], j, h => by simp at h
  | x :: t, 0, _ => ⟨rfl, rfl⟩
  | x :: t, j + 1, h => by
    have := infC_get t j (by simp at h; omega)
    rw [infC, List.flatMap_cons, ← infC, show (j + 1) * 2 = j * 2 + 2 from by omega, show j * 2 + 2 + 1 = j * 2 + 1 + 2 from by omega]
    simpa using this
/-- the slice that begins at A reads so, below block B. -/
def InfS (w : World) (B : Nat) (A : Option Addr) (l : List (Int × Int)) : Prop :=
  0 < l.length → ∃ b off, A = some ⟨b, off, none⟩ ∧ b < B ∧ ∀ i (h : i < l.length), w.cell? ⟨b, off + i * 2, none⟩ = some (.int .i64 l[i].1) ∧ w.cell? ⟨b, off + i * 2 + 1, none⟩ = some (.int .i64 l[i].2)
theorem InfS.nil (w : World) (B : Nat) (A : Option Addr) : InfS w B A [] := fun h => absurd h (by simp)
theorem InfS.below {w w' : World} {B B' : Nat} {A : Option Addr} {l : List (Int × Int)} (h : InfS w B A l) (hb : Below B' w w') (hB : B ≤ B') : InfS w' B A l := fun hl => by
  obtain ⟨b, off, e, hbb, hc⟩ := h hl
  exact ⟨b, off, e, hbb, fun i hi => ⟨(hb.cell (by show b < B'; omega)).trans (hc i hi).1, (hb.cell (by show b < B'; omega)).trans (hc i hi).2⟩⟩
theorem InfS.more {w : World} {B B' : Nat} {A : Option Addr} {l : List (Int × Int)} (h : InfS w B A l) (hB : B ≤ B') : InfS w B' A l := fun hl => by
  obtain ⟨b, off, e, hb, hc⟩ := h hl
  exact ⟨b, off, e, by omega, hc⟩
theorem row_infs {w : World} {base : Nat} {e : TypeId} {v : Value} {l : List (Int × Int)} (h : w.ownsRow base e 2 v l.length (infC l)) : ∃ A c, v = .slice A l.length c ∧ l.length ≤ c ∧ InfS w w.heap.size A l := by
  rcases h.2 with ⟨rfl, h0⟩ | ⟨gg, cap, cur, rfl, hb, hg, hn, hm, hsz, ht⟩
  · exact ⟨none, 0, by rw [h0], by omega, fun hp => by omega⟩
  · refine ⟨some ⟨gg, 0, none⟩, cap, rfl, hn, fun _ => ⟨gg, 0, rfl, (Array.getElem?_eq_some_iff.1 hg).1, fun i hi => ?_⟩⟩
    obtain ⟨h1, h2⟩ := infC_get l i hi
    have hc : ∀ i, i < l.length * 2 → w.cell? ⟨gg, i, none⟩ = (infC l)[i]? := fun i hi => World.ownsRow.cellAt (g := gg) (cap := cap) h i hi
    rw [Nat.zero_add]
    exact ⟨(hc _ (by omega)).trans h1, (hc _ (by omega)).trans h2⟩
theorem RdS.grow {g : Nat} {A : Option Addr} {l : List UInt8} {c k : Nat} {er : Int} {w w' : World} {row : Option Nat} (h : RdS g A l c w k er) (hg : w.grownBy w' row) (hr : ∀ i, row = some i → g < i) : RdS g A l c w' k er :=
  ⟨h.rd.grown hg (fun e => by have := hr g e; omega), fun hl => by
    obtain ⟨b, off, e, hb, hc⟩ := h.by' hl
    exact ⟨b, off, e, hb, fun i hi => hg.cell (hc i hi) (fun e2 => by have := hr b e2.symm; omega)⟩, h.le⟩
theorem RrS.grow {g B : Nat} {A : Option Addr} {l : List UInt8} {c k : Nat} {er : Int} {w w' : World} {row : Option Nat} (h : RrS g B A l c w k er) (hg : w.grownBy w' row) (hr : ∀ i, row = some i → g < i) : RrS g B A l c w' k er :=
  ⟨h.rr.grown hg (fun e => by have := hr g e; omega), fun hl => by
    obtain ⟨b, off, e, hb, hc⟩ := h.by' hl
    exact ⟨b, off, e, hb, fun i hi => hg.cell (hc i hi) (fun e2 => by have := hr b e2.symm; omega)⟩, h.le, h.far⟩
end Go.Proofs.Ytpbgbfmpjgkllaa
