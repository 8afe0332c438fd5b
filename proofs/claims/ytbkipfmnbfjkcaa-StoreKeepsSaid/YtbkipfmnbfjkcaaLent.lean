/-
  The walks of Lent, Kept and Count of the document's own answers: bytes in new memory with eight marks behind; that they are as they were; a number from 0 to one below n.
-/
import Derived.Test.YtbkipfmnbfjkcaaBase
import Derived.Laws.CopyOwn
namespace Go.Proofs.Ytbkipfmnbfjkcaa
open Go.RowKit

/-- the row of Lent: the bytes, and eight marks behind them. -/
def markRow (l : List UInt8) (k : Nat) : List Value := l.map byteV ++ List.replicate k (.int .u8 165)
/-- block g is what Lent makes of l. -/
def Lentd (w : World) (g : Nat) (l : List UInt8) : Prop := w.heap[g]? = some (.cells (markRow l 8).toArray 5 (0, 0))

theorem length_markRow (l : List UInt8) (k : Nat) : (markRow l k).length = l.length + k := by simp [markRow]
theorem markRow_lo {l : List UInt8} {k i : Nat} (h : i < l.length) : (markRow l k)[i]? = some (.int .u8 (l[i].toNat : Int)) := by
  unfold markRow
  rw [List.getElem?_append_left (by simpa using h)]
  simp [byteV, h]
theorem markRow_hi {l : List UInt8} {k i : Nat} (h : l.length ≤ i) (h2 : i < l.length + k) : (markRow l k)[i]? = some (.int .u8 165) := by
  unfold markRow
  rw [List.getElem?_append_right (by simpa using h), List.getElem?_replicate, if_pos (by simp; omega)]

theorem Lentd.lt {w : World} {g : Nat} {l : List UInt8} (h : Lentd w g l) : g < w.heap.size := (Array.getElem?_eq_some_iff.1 h).1
theorem Lentd.cell {w : World} {g : Nat} {l : List UInt8} (h : Lentd w g l) (i : Nat) : w.cell? ⟨g, i, none⟩ = (markRow l 8)[i]? := by
  rw [cell_of_row w g i _ _ (0, 0) h]; simp
theorem Lentd.byt {w : World} {g B : Nat} {l : List UInt8} (h : Lentd w g l) (hB : g < B) : Byt w B (some ⟨g, 0, none⟩) l := fun _ =>
  ⟨g, 0, rfl, hB, fun i hi => by rw [Nat.zero_add, h.cell i, markRow_lo hi]⟩
theorem Lentd.below {w w' : World} {g B : Nat} {l : List UInt8} (h : Lentd w g l) (hb : Below B w w') (hg : g < B) : Lentd w' g l := (hb.block g hg).trans h
theorem Lentd.drewN {w : World} {g : Nat} {l : List UInt8} (h : Lentd w g l) (k : Nat) : Lentd (w.drewN k) g l := h

theorem make_u8 (w : World) (n : Nat) (h : n ≤ 140737488355328) :
    (Instr.makeSlice 135 (.int .i64 (n : Int)) (.int .i64 ((n : Int) + 8))).run Try.prog w = .ok (.slice (some ⟨w.heap.size, 0, none⟩) n (n + 8)) (w.alloc (.cells (madeCells #[.int .u8 0] (n + 8)) 5)) := by
  obtain ⟨i, hi, hz, hs, hb⟩ := info_parts info_u8
  have := run_make (P := Try.prog) w 135 5 i (.int .u8 0) Try.underlying135 hi hz .i64 .i64 (n : Int) ((n : Int) + 8) (by omega) (by omega) (by rw [hb]; omega) (by omega)
  rw [this, hs]
  have e : ((n : Int) + 8).toNat = n + 8 := by omega
  rw [e]; simp [Value.cells]

theorem splice_marks (l : List UInt8) : splice (madeCells #[.int .u8 0] (l.length + 8)).toList 0 (l.map byteV) = l.map byteV ++ List.replicate 8 (.int .u8 0) := by
  rw [toList_madeCells_one]; simp [splice]

/-- 'string(b)' of a slice that reads as l. -/
theorem conv_any (A : Option Addr) (c : Nat) (l : List UInt8) (B : Nat) (w : World) (hb : Byt w B A l) :
    (convert 135 9 (.slice A l.length c)).run Try.prog w = .ok (.string ⟨l.toArray⟩) w := by
  rcases A with _ | a
  · have h0 : l = [] := by
      rcases l with _ | ⟨x, l⟩
      · rfl
      · obtain ⟨b, off, e, _⟩ := hb (by simp)
        cases e
    subst h0
    exact run_convert_bytes_nil w 135 5 Try.underlying135 Try.underlying5 _ _ 9 Try.underlying9
  · refine run_convert_bytes_back w 135 9 5 a c l Try.underlying135 Try.underlying5 Try.underlying9 fun j hj => ?_
    obtain ⟨b, off, e, _, hcell⟩ := hb (by omega)
    cases e
    rw [add_none]; exact hcell j hj

/-- 'Count(k, n)' at a number n above 0. -/
def countS (k : Int) (n : Nat) : Nat := (if k.tmod n < 0 then k.tmod n + n else k.tmod n).toNat
theorem count_lt (k : Int) {n : Nat} (hn : 0 < n) : countS k n < n := by
  unfold countS
  have h1 := Int.tmod_lt_of_pos k (show (0 : Int) < (n : Int) by omega)
  have h2 : -(n : Int) < k.tmod n := by
    have := Int.lt_tmod_of_pos k (show (0 : Int) < (n : Int) by omega)
    omega
  split <;> omega

set_option maxHeartbeats 1000000 in
theorem count_any (k : Int) (n : Nat) (w : World) (hn : 0 < n) (hn2 : n ≤ 4611686018427387904) :
    Calls Try.prog 27 #[.int .i64 k, .int .i64 (n : Int)] w fun e w' => e = .returned (.int .i64 (countS k n : Nat)) ∧ w = w' := by
  have h1 := Int.tmod_lt_of_pos k (show (0 : Int) < (n : Int) by omega)
  have h2 : -(n : Int) < k.tmod n := by
    have := Int.lt_tmod_of_pos k (show (0 : Int) < (n : Int) by omega)
    omega
  have hz : ¬ (n : Int) = 0 := by omega
  have hz2 : ((n : Int) == 0) = false := by simp; omega
  have hp : (0 : Int) < (n : Int) := by omega
  by_cases h : k.tmod n < 0
  · have e : ((countS k n : Nat) : Int) = k.tmod n + n := by unfold countS; rw [if_pos h]; omega
    have H := hide e
    clear e
    go_enter Try.func27, Try.ntmps27
    go_wp2
    go_ret
    exact ⟨ret_int (by rw [H.out]), rfl⟩
  · have e : ((countS k n : Nat) : Int) = k.tmod n := by unfold countS; rw [if_neg h]; omega
    have H := hide e
    clear e
    go_enter Try.func27, Try.ntmps27
    go_wp2
    go_ret
    exact ⟨ret_int (by rw [H.out]), rfl⟩
end Go.Proofs.Ytbkipfmnbfjkcaa
