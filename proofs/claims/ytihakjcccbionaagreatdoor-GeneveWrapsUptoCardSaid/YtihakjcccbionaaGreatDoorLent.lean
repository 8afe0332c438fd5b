/-
  The walks of Lent, Kept and Count of the document's own answers: bytes in new memory with eight marks behind; that they are as they were; a number from 0 to one below n.
-/
import Derived.Test.YtihakjcccbionaaGreatDoorBase
import Derived.Laws.CopyOwn
namespace Go.Proofs.YtihakjcccbionaaGreatDoor
open Go.RowKit

/-- the row of Lent: the bytes, and eight marks behind them. -/
def markRow (l : List UInt8) (k : Nat) : List Value := l.map byteV ++ List.replicate k (.int .u8 165)
/-- block g is what Lent makes of l. -/
def Lentd (w : World) (g : Nat) (l : List UInt8) : Prop := w.heap[g]? = some (.cells (markRow l 8).toArray 5 (0, 0))

theorem length_markRow (l : List UInt8) (k : Nat) : (markRow l k).length = l.length + k := by simp [markRow]
theorem markRow_lo {l : List UInt8} {k i : Nat} (h : i < l.length) : (markRow l k)[i]? = some (.int .u8 (l[i].toNat : Int)) := by
  unfold markRow
  rw [List.getElem?_append_left (by simpa using h)]
  simp [byteV, h]
theorem markRow_hi {l : List UInt8} {k i : Nat} (h : l.length ≤ i) (h2 : i < l.length + k) : (markRow l k)[i]? = some (.int .u8 165) := by
  unfold markRow
  rw [List.getElem?_append_right (by simpa using h), List.getElem?_replicate, if_pos (by simp; omega)]

theorem Lentd.lt {w : World} {g : Nat} {l : List UInt8} (h : Lentd w g l) : g < w.heap.size := (Array.getElem?_eq_some_iff.1 h).1
theorem Lentd.cell {w : World} {g : Nat} {l : List UInt8} (h : Lentd w g l) (i : Nat) : w.cell? ⟨g, i, none⟩ = (markRow l 8)[i]? := by
  rw [cell_of_row w g i _ _ (0, 0) h]; simp
theorem Lentd.byt {w : World} {g B : Nat} {l : List UInt8} (h : Lentd w g l) (hB : g < B) : Byt w B (some ⟨g, 0, none⟩) l := fun _ =>
  ⟨g, 0, rfl, hB, fun i hi => by rw [Nat.zero_add, h.cell i, markRow_lo hi]⟩
theorem Lentd.below {w w' : World} {g B : Nat} {l : List UInt8} (h : Lentd w g l) (hb : Below B w w') (hg : g < B) : Lentd w' g l := (hb.block g hg).trans h
theorem Lentd.drewN {w : World} {g : Nat} {l : List UInt8} (h : Lentd w g l) (k : Nat) : Lentd (w.drewN k) g l := h

theorem make_u8 (w : World) (n : Nat) (h : n ≤ 140737488355328) :
    (Instr.makeSlice 28 (.int .i64 (n : Int)) (.int .i64 ((n : Int) + 8))).run Tryz.prog w = .ok (.slice (some ⟨w.heap.size, 0, none⟩) n (n + 8)) (w.alloc (.cells (madeCells #[.int .u8 0] (n + 8)) 5)) := by
  obtain ⟨i, hi, hz, hs, hb⟩ := info_parts info_u8
  have := run_make (P := Tryz.prog) w 28 5 i (.int .u8 0) Tryz.underlying28 hi hz .i64 .i64 (n : Int) ((n : Int) + 8) (by omega) (by omega) (by rw [hb]; omega) (by omega)
  rw [this, hs]
  have e : ((n : Int) + 8).toNat = n + 8 := by omega
  rw [e]; simp [Value.cells]

theorem splice_marks (l : List UInt8) : splice (madeCells #[.int .u8 0] (l.length + 8)).toList 0 (l.map byteV) = l.map byteV ++ List.replicate 8 (.int .u8 0) := by
  rw [toList_madeCells_one]; simp [splice]

set_option maxRecDepth 100000 in
set_option maxHeartbeats 1000000 in
theorem lent_any (A : Option Addr) (c : Nat) (l : List UInt8) (B : Nat) (w : World) (_hl : l.length ≤ c) (hc : l.length ≤ 140737488355320) (hb : Byt w B A l) (hB : B ≤ w.heap.size) :
    Calls Tryz.prog 18 #[.slice A l.length c] w fun e w' => e = .returned (.slice (some ⟨w.heap.size, 0, none⟩) l.length (l.length + 8)) ∧ Lentd w' w.heap.size l ∧ Below w.heap.size w w' := by
  obtain ⟨n, hn⟩ : ∃ n, n = l.length := ⟨_, rfl⟩
  obtain ⟨cs, hcs⟩ : ∃ cs, cs = l.map byteV := ⟨_, rfl⟩
  obtain ⟨z, hz⟩ : ∃ z, z = (madeCells #[.int .u8 0] (n + 8)) := ⟨_, rfl⟩
  have hmk := make_u8 w n (by omega)
  rw [← hn] at hc ⊢
  rw [← hz] at hmk
  have HN := hide hn
  have HZ := hide hz
  have HC := hide hcs
  have HW : Hid (((w.alloc (.cells z 5)).heap[w.heap.size]?) = some (.cells z.toList.toArray 5 (0, 0))) := hide (by
    have := heap_alloc_new w (.cells z 5)
    simpa using this)
  have HCL : Hid (cs.length = n) := hide (by rw [hcs, hn]; simp)
  have HZL : Hid (z.toList.length = n + 8) := hide (by rw [hz, Array.length_toList, size_madeCells])
  have HSP : Hid (splice z.toList 0 cs = l.map byteV ++ List.replicate 8 (.int .u8 0)) := hide (by rw [hz, hcs, hn]; exact splice_marks l)
  clear hn hz hcs
  obtain ⟨i0, hi, hz0, hz1, hz2⟩ := info_parts info_u8
  go_enter Tryz.func18, Tryz.ntmps18
  go_wp2_with (with_reducible refine wpList_copy_splice rfl (.tmp 11) (.tmp 12) 28 28 rfl 5 Tryz.underlying28 (by kernel_rfl) (some ⟨w.heap.size, 0, none⟩) A n (n + 8) n c rfl rfl w.heap.size 0 z.toList 5 HW.out cs ?l1 ?l2 ?l3 ?l4 w.heap.size w ?l5 (Nat.le_refl _) ?_)
  case l1 => rw [HCL.out]; simp
  case l2 =>
    intro hpos
    obtain ⟨b, off, rfl, hbB, hcell⟩ := hb (by rw [HCL.out, HN.out] at hpos; exact hpos)
    refine ⟨_, rfl, fun j v hj => ?_⟩
    rw [HC.out] at hj
    obtain ⟨hjl, hjv⟩ := List.getElem?_eq_some_iff.1 hj
    have hjl' : j < l.length := by simpa using hjl
    rw [World.cell?_alloc_lt _ _ _ (by rw [block_of_add]; show b < _; omega), add_none, hcell j hjl', ← hjv]
    simp [byteV]
  case l3 => rw [HCL.out, HZL.out]; omega
  case l4 => rw [HC.out]; exact byteV_one l
  case l5 => exact (Below.refl _ _).alloc (Nat.le_refl _) _
  intro w2 HG2 hB2
  have hown2 : w2.ownsRow w.heap.size 5 1 (.slice (some ⟨w.heap.size, 0, none⟩) n (n + 8)) n (markRow l 0) := by
    refine ⟨by rw [length_markRow, HN.out]; omega, .inr ⟨w.heap.size, n + 8, _, rfl, Nat.le_refl _, HG2.out, by omega, by unfold maxLen; omega, ?_, ?_⟩⟩
    · rw [HSP.out]; simp [HN.out]
    · rw [HSP.out]; simp [HN.out, markRow]
  clear HG2 hb hmk
  go_wp2
  go_loopw [3, 4] (fun v i wr => ∃ k : Nat, k ≤ 8 ∧ i = .int .i64 ((n + k : Nat) : Int) ∧ v = .slice (some ⟨w.heap.size, 0, none⟩) (n + k) (n + 8) ∧ wr.ownsRow w.heap.size 5 1 (.slice (some ⟨w.heap.size, 0, none⟩) (n + k) (n + 8)) (n + k) (markRow l k) ∧ Below w.heap.size w wr)
    (fun _ i _ => n + 8 - (intOf i).toNat)
  case atStart => exact ⟨0, by omega, rfl, rfl, hown2, hB2⟩
  case round =>
    obtain ⟨k, hk, rfl, rfl, hown, hbel⟩ := hrel
    clear hown2 hB2
    by_cases hlt : k < 8
    · go_wp2_with (at_builtin; refine wpList_append_fits _ rfl (.tmp 23) (.tmp 24) 28 rfl w.heap.size 5 i0 1 Tryz.underlying28 hi hz1 w.heap.size (n + k) (n + 8) (markRow l k) rfl (hown.alloc _) ⟨wr.heap.size, 0, none⟩ 1 1 [.int .u8 165] rfl rfl ?c1 ?c2 ?c3 ?_)
      case c1 =>
        intro j u hj
        match j, hj with
        | 0, hj => simp at hj; subst hj; rw [add_none]; simp
      case c2 => intro u hu; simp at hu; subst hu; rfl
      case c3 => omega
      intro w3 hown3 hgrow3
      have hown4 : w3.ownsRow w.heap.size 5 1 (.slice (some ⟨w.heap.size, 0, none⟩) (n + (k + 1)) (n + 8)) (n + (k + 1)) (markRow l (k + 1)) := by
        have e : markRow l (k + 1) = markRow l k ++ [.int .u8 165] := by unfold markRow; rw [List.append_assoc, List.replicate_succ']
        rw [e]; exact hown3
      have hbel3 : Below w.heap.size w w3 := (hbel.alloc (by have := hbel.size; omega) _).grown hgrow3 (by have := hbel.size; simp; omega) (fun g hg => by simp at hg; omega)
      clear hown hown3 hgrow3 hbel
      go_wp2
      go_roundw
      case rel => exact ⟨k + 1, by omega, by go_num, rfl, hown4, hbel3⟩
      case measure => simp [intOf]; omega
    · obtain rfl : k = 8 := by omega
      clear hlt
      go_wp2
      go_ret
      refine ⟨rfl, ?_, hbel⟩
      rcases hown.2 with ⟨h, _⟩ | ⟨g', cap', cur, h, _, hg, _, _, hsz, htake⟩
      · simp at h
      · simp only [Value.slice.injEq, Option.some.injEq, Addr.mk.injEq, and_true, true_and] at h
        obtain ⟨rfl, rfl⟩ := h
        unfold Lentd
        rw [hg, ← htake, List.take_of_length_le (by simp [hsz])]

/-- 'string(b)' of a slice that reads as l. -/
theorem conv_any (A : Option Addr) (c : Nat) (l : List UInt8) (B : Nat) (w : World) (hb : Byt w B A l) :
    (convert 28 9 (.slice A l.length c)).run Tryz.prog w = .ok (.string ⟨l.toArray⟩) w := by
  rcases A with _ | a
  · have h0 : l = [] := by
      rcases l with _ | ⟨x, l⟩
      · rfl
      · obtain ⟨b, off, e, _⟩ := hb (by simp)
        cases e
    subst h0
    exact run_convert_bytes_nil w 28 5 Tryz.underlying28 Tryz.underlying5 _ _ 9 Tryz.underlying9
  · refine run_convert_bytes_back w 28 9 5 a c l Tryz.underlying28 Tryz.underlying5 Tryz.underlying9 fun j hj => ?_
    obtain ⟨b, off, e, _, hcell⟩ := hb (by omega)
    cases e
    rw [add_none]; exact hcell j hj

/-- 'Count(k, n)' at a number n above 0. -/
def countS (k : Int) (n : Nat) : Nat := (if k.tmod n < 0 then k.tmod n + n else k.tmod n).toNat
theorem count_lt (k : Int) {n : Nat} (hn : 0 < n) : countS k n < n := by
  unfold countS
  have h1 := Int.tmod_lt_of_pos k (show (0 : Int) < (n : Int) by omega)
  have h2 : -(n : Int) < k.tmod n := by
    have := Int.lt_tmod_of_pos k (show (0 : Int) < (n : Int) by omega)
    omega
  split <;> omega

end Go.Proofs.YtihakjcccbionaaGreatDoor
