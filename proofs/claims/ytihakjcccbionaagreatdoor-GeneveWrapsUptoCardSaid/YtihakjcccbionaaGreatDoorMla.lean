import Derived.Test.YtihakjcccbionaaGreatDoorMcu
import Derived.Test.YtihakjcccbionaaGreatDoorBase
import Derived.Lib.AppendZerosOnto
section
/-
  The walk of the fixed calls of the cursor's statements: they answer true.
-/
namespace Go.Proofs.YtihakjcccbionaaGreatDoor
open Go.RowKit

def fixedOps : List (Int × Int) := [(0, 2), (2, 1), (3, 1)]
theorem fixed_one : runS [1, 2, 3, 0] fixedOps 0 = ([(258, []), (0, []), (0, [])], 4, 0) := by decide +kernel
theorem fixed_two : runS [1] fixedOps 0 = ([], 0, 10) := by decide +kernel

theorem run_fixed1 (w : World) : Calls Tryz.prog 90 #[.slice (some ⟨w.heap.size + 1, 0, none⟩) 4 4, .slice (some ⟨w.heap.size, 0, none⟩) 3 3]
    ((w.alloc (.cells #[.int .i64 0, .int .i64 2, .int .i64 2, .int .i64 1, .int .i64 3, .int .i64 1] 121)).alloc (.cells #[.int .u8 1, .int .u8 2, .int .u8 3, .int .u8 0] 5)) fun e w' =>
    ∃ gg c, e = .returned (.tuple #[.slice (some ⟨gg, 0, none⟩) 3 c, .int .i64 4, .int .i64 0]) ∧ w'.cell? ⟨gg, 0, none⟩ = some (.int .u64 258) ∧ gg < w'.heap.size ∧ Below w.heap.size w w' ∧ Ops w' w'.heap.size (some ⟨w.heap.size, 0, none⟩) fixedOps := by
  have ho := Ops.lit w fixedOps #[.int .i64 0, .int .i64 2, .int .i64 2, .int .i64 1, .int .i64 3, .int .i64 1] 121 (0, 0) rfl
  have hz : (w.alloc (.cells #[.int .i64 0, .int .i64 2, .int .i64 2, .int .i64 1, .int .i64 3, .int .i64 1] 121)).heap.size = w.heap.size + 1 := by simp
  have hbl : Below w.heap.size w (w.alloc (.cells #[.int .i64 0, .int .i64 2, .int .i64 2, .int .i64 1, .int .i64 3, .int .i64 1] 121)) := (Below.refl _ _).alloc (Nat.le_refl _) _
  generalize w.alloc (.cells #[.int .i64 0, .int .i64 2, .int .i64 2, .int .i64 1, .int .i64 3, .int .i64 1] 121) = w1 at ho hz hbl ⊢
  have hy := Byt.lit w1 [1, 2, 3, 0] #[.int .u8 1, .int .u8 2, .int .u8 3, .int .u8 0] 5 (0, 0) rfl
  have hb2 : Below w1.heap.size w1 (w1.alloc (.cells #[.int .u8 1, .int .u8 2, .int .u8 3, .int .u8 0] 5)) := (Below.refl _ _).alloc (Nat.le_refl _) _
  have ho2 : Ops (w1.alloc (.cells #[.int .u8 1, .int .u8 2, .int .u8 3, .int .u8 0] 5)) (w1.heap.size + 1) (some ⟨w.heap.size, 0, none⟩) fixedOps := ho.more (by omega) (hb2.mono (by omega))
  have hz2 : (w1.alloc (.cells #[.int .u8 1, .int .u8 2, .int .u8 3, .int .u8 0] 5)).heap.size = w1.heap.size + 1 := by simp
  rw [hz] at hy ho2 hz2
  generalize w1.alloc (.cells #[.int .u8 1, .int .u8 2, .int .u8 3, .int .u8 0] 5) = w2 at hy ho2 hz2 hb2 ⊢
  have hrun := run_any w2 (some ⟨w.heap.size + 1, 0, none⟩) (some ⟨w.heap.size, 0, none⟩) [1, 2, 3, 0] 4 3 fixedOps (by decide) (by show 4 ≤ _; omega) (hy.more (by omega)) (ho2.keep (by omega) (fun _ _ => rfl)) (by show 3 ≤ _; omega)
  rw [fixed_one] at hrun
  refine hrun.mono fun e w' ⟨vv, items, he, hown, hm, hb⟩ => ?_
  have hil : items.length = 3 := by have := congrArg List.length hm; simpa using this
  obtain ⟨Av, cv, rfl, _, hcells⟩ := hown.shape
  obtain ⟨gg, rfl, _, hgl, hc⟩ := hcells (by omega)
  have hN : items[0].N = 258 := by
    have := congrArg (fun x => x[0]?) hm
    simp [List.getElem?_eq_getElem (show 0 < items.length by omega)] at this
    exact this.1
  refine ⟨gg, cv, by rw [he, hil]; rfl, ?_, hgl, hbl.trans ((hb2.mono (by omega)).trans (hb.mono (by omega))), ho2.keep (by have := hb.size; omega) (fun p hp => hb.cell (by omega))⟩
  have := (hc 0 (by omega)).1
  rw [hN] at this
  exact this

theorem run_fixed2 (w : World) (A : Option Addr) (ho : Ops w w.heap.size A fixedOps) : Calls Tryz.prog 90 #[.slice (some ⟨w.heap.size, 0, none⟩) 1 1, .slice A 3 3] (w.alloc (.cells #[.int .u8 1] 5)) fun e w' =>
    ∃ A' c, e = .returned (.tuple #[.slice A' 0 c, .int .i64 0, .int .i64 10]) ∧ Below w.heap.size w w' := by
  have hy := Byt.lit w [1] #[.int .u8 1] 5 (0, 0) rfl
  have hb2 : Below w.heap.size w (w.alloc (.cells #[.int .u8 1] 5)) := (Below.refl _ _).alloc (Nat.le_refl _) _
  have ho2 : Ops (w.alloc (.cells #[.int .u8 1] 5)) (w.heap.size + 1) A fixedOps := ho.more (by omega) hb2
  have hz2 : (w.alloc (.cells #[.int .u8 1] 5)).heap.size = w.heap.size + 1 := by simp
  generalize w.alloc (.cells #[.int .u8 1] 5) = w2 at hy ho2 hz2 hb2 ⊢
  have hrun := run_any w2 (some ⟨w.heap.size, 0, none⟩) A [1] 1 3 fixedOps (by decide) (by show 1 ≤ _; omega) (hy.more (by omega)) (ho2.keep (by omega) (fun _ _ => rfl)) (by show 3 ≤ _; omega)
  rw [fixed_two] at hrun
  refine hrun.mono fun e w' ⟨vv, items, he, hown, hm, hb⟩ => ?_
  have hil : items.length = 0 := by have := congrArg List.length hm; simpa using this
  obtain ⟨Av, cv, rfl, _, _⟩ := hown.shape
  exact ⟨Av, cv, by rw [he, hil]; rfl, hb2.trans (hb.mono (by omega))⟩

end Go.Proofs.YtihakjcccbionaaGreatDoor

end
section
/-
  The walk of 'ops': pieces as the program has them, in new memory.
-/
namespace Go.Proofs.YtihakjcccbionaaGreatDoor
open Go.RowKit
set_option maxRecDepth 100000

def opCells (l : List (Int × Int)) : List Value := l.flatMap fun o => [Value.int .i64 o.1, Value.int .i64 o.2]
theorem opCells_snoc (l : List (Int × Int)) (o : Int × Int) : opCells (l ++ [o]) = opCells l ++ [.int .i64 o.1, .int .i64 o.2] := by simp [opCells]
theorem opCells_get : ∀ (l : List (Int × Int)) (j : Nat) (h : j < l.length), (opCells l)[j * 2]? = some (.int .i64 l[j].1) ∧ (opCells l)[j * 2 + 1]? = some (.int .i64 l[j].2)
  | [], j, h => by simp at h
  | x :: t, 0, _ => ⟨rfl, rfl⟩
  | x :: t, j + 1, h => by
    have := opCells_get t j (by simp at h; omega)
    rw [opCells, List.flatMap_cons, ← opCells, show (j + 1) * 2 = j * 2 + 2 from by omega, show j * 2 + 2 + 1 = j * 2 + 1 + 2 from by omega]
    simpa using this
/-- the slice value v owns, from block 'base' on, a row of pieces. -/
def OwnO (w : World) (base : Nat) (v : Value) (l : List (Int × Int)) : Prop := w.ownsRow base 121 2 v l.length (opCells l)
theorem OwnO.shape {w : World} {base : Nat} {v : Value} {l : List (Int × Int)} (h : OwnO w base v l) : ∃ A c, v = .slice A l.length c ∧ Ops w w.heap.size A l ∧ (∀ a, A = some a → base ≤ a.block) := by
  rcases h.2 with ⟨rfl, h0⟩ | ⟨gg, cap, cur, rfl, hb, hg, hn, hm, hsz, ht⟩
  · obtain rfl : l = [] := List.eq_nil_of_length_eq_zero h0
    exact ⟨none, 0, rfl, fun hp => absurd hp (by simp), fun a e => by cases e⟩
  · refine ⟨some ⟨gg, 0, none⟩, cap, rfl, fun _ => ⟨gg, 0, rfl, (Array.getElem?_eq_some_iff.1 hg).1, fun i hi => ?_⟩, fun a e => by cases e; exact hb⟩
    obtain ⟨h1, h2⟩ := opCells_get l i hi
    have hc : ∀ i, i < l.length * 2 → w.cell? ⟨gg, i, none⟩ = (opCells l)[i]? := fun i hi => World.ownsRow.cellAt (g := gg) (cap := cap) h i hi
    rw [Nat.zero_add]
    exact ⟨(hc _ (by omega)).trans h1, (hc _ (by omega)).trans h2⟩

theorem info_op : (Tryz.prog.info? 121).map (fun i => (i.zero, i.size, i.bytes)) = some (some (.agg #[.int .i64 0, .int .i64 0]), 2, 16) := by kernel_rfl

end Go.Proofs.YtihakjcccbionaaGreatDoor

end
section
/-
  The walks of 'told' and 'Same': what was read, in the document's own form; that two such lists are alike.
-/
namespace Go.Proofs.YtihakjcccbionaaGreatDoor
open Go.RowKit
set_option maxRecDepth 100000

/-- the slice that begins at A reads, below block B, as things that were read. -/
def RdV (w : World) (B : Nat) (A : Option Addr) (items : List VItem) : Prop :=
  0 < items.length → ∃ b off, A = some ⟨b, off, none⟩ ∧ b < B ∧ ∀ i (h : i < items.length), w.cell? ⟨b, off + i * 2, none⟩ = some (.int .u64 (items[i].N : Int)) ∧ w.cell? ⟨b, off + i * 2 + 1, none⟩ = some items[i].v
/-- each of their slices reads as its bytes. -/
def RdB (w : World) (B : Nat) (items : List VItem) : Prop := ∀ it ∈ items, ∃ A c, it.v = .slice A it.b.length c ∧ it.b.length ≤ c ∧ Byt w B A it.b
theorem RdV.keep {w w' : World} {B B' : Nat} {A : Option Addr} {l : List VItem} (h : RdV w B A l) (hB : B ≤ B') (hk : ∀ p : Addr, p.block < B → w'.cell? p = w.cell? p) : RdV w' B' A l := fun hl => by
  obtain ⟨b, off, e, hb, hc⟩ := h hl
  exact ⟨b, off, e, by omega, fun i hi => ⟨(hk _ hb).trans (hc i hi).1, (hk _ hb).trans (hc i hi).2⟩⟩
theorem RdB.keep {w w' : World} {B B' : Nat} {l : List VItem} (h : RdB w B l) (hB : B ≤ B') (hk : ∀ p : Addr, p.block < B → w'.cell? p = w.cell? p) : RdB w' B' l := fun it hit => by
  obtain ⟨A, c, e, hl, hb⟩ := h it hit
  exact ⟨A, c, e, hl, (hb.keep hk).more hB⟩
theorem OwnV.reads {w : World} {base : Nat} {vv : Value} {items : List VItem} (h : OwnV w base vv items) : ∃ A c, vv = .slice A items.length c ∧ RdV w w.heap.size A items ∧ RdB w w.heap.size items := by
  obtain ⟨A, c, e, _, hc⟩ := h.shape
  refine ⟨A, c, e, fun hp => ?_, fun it hit => ?_⟩
  · obtain ⟨gg, e1, _, hlt, hcell⟩ := hc hp
    refine ⟨gg, 0, e1, hlt, fun i hi => ?_⟩
    rw [Nat.zero_add]; exact hcell i hi
  · obtain ⟨A', c', e1, hl, hby, _, _⟩ := (h.each it hit).shape
    exact ⟨A', c', e1, hl, hby⟩

theorem itemCells_snoc (l : List VItem) (o : VItem) : itemCells (l ++ [o]) = itemCells l ++ [.int .u64 (o.N : Int), o.v] := by simp [itemCells]
theorem itemCells_get : ∀ (l : List VItem) (j : Nat) (h : j < l.length), (itemCells l)[j * 2]? = some (.int .u64 (l[j].N : Int)) ∧ (itemCells l)[j * 2 + 1]? = some l[j].v
  | [], j, h => by simp at h
  | x :: t, 0, _ => ⟨rfl, rfl⟩
  | x :: t, j + 1, h => by
    have := itemCells_get t j (by simp at h; omega)
    rw [itemCells, List.flatMap_cons, ← itemCells, show (j + 1) * 2 = j * 2 + 2 from by omega, show j * 2 + 2 + 1 = j * 2 + 1 + 2 from by omega]
    simpa using this
/-- a row of the call's own, of whatever type of two cells, reads as what it holds. -/
theorem row_reads {w : World} {base : Nat} {e : TypeId} {v : Value} {items : List VItem} (h : w.ownsRow base e 2 v items.length (itemCells items)) : ∃ A c, v = .slice A items.length c ∧ RdV w w.heap.size A items := by
  rcases h.2 with ⟨rfl, h0⟩ | ⟨gg, cap, cur, rfl, hb, hg, hn, hm, hsz, ht⟩
  · exact ⟨none, 0, by rw [h0], fun hp => by omega⟩
  · refine ⟨some ⟨gg, 0, none⟩, cap, rfl, fun _ => ⟨gg, 0, rfl, (Array.getElem?_eq_some_iff.1 hg).1, fun i hi => ?_⟩⟩
    obtain ⟨h1, h2⟩ := itemCells_get items i hi
    have hc : ∀ i, i < items.length * 2 → w.cell? ⟨gg, i, none⟩ = (itemCells items)[i]? := fun i hi => World.ownsRow.cellAt (g := gg) (cap := cap) h i hi
    rw [Nat.zero_add]
    exact ⟨(hc _ (by omega)).trans h1, (hc _ (by omega)).trans h2⟩

theorem info_rval : (Tryz.prog.info? 103).map (fun i => (i.zero, i.size, i.bytes)) = some (some (.agg #[.int .u64 0, .slice none 0 0]), 2, 32) := by kernel_rfl

end Go.Proofs.YtihakjcccbionaaGreatDoor

end
section
/-
  The walks of Lay's parts at a number: fits, length, put.
-/
namespace Go.Proofs.YtihakjcccbionaaGreatDoor
open Go.RowKit
set_option maxRecDepth 100000

theorem pow256 (m : Nat) : (256 : Nat) ^ m = 2 ^ (8 * m) := by rw [Nat.pow_mul]
theorem div_zero_of {N m : Nat} (h : N < 256 ^ m) : ((N : Int) / 2 ^ (8 * m)) = 0 := by
  rw [pow256] at h
  have e : ((N : Int) / 2 ^ (8 * m)) = ((N / 2 ^ (8 * m) : Nat) : Int) := by simp
  rw [e, Nat.div_eq_of_lt h]; rfl

set_option maxHeartbeats 1000000 in
theorem fits_num (w : World) (N m : Nat) (hm1 : 1 ≤ m) (hm8 : m ≤ 8) (hN : N < 256 ^ m) :
    Calls Tryz.prog 62 #[.agg #[.int .u64 (N : Int), .slice none 0 0], .agg #[.int .i64 0, .int .i64 (m : Int)]] w fun e w' => e = .returned (.bool true) ∧ Below w.heap.size w w' := by
  have hright : (decide ((1 : Int) ≤ (m : Int)) && decide ((m : Int) ≤ 8)) = true := by simp; omega
  have hR := rightSize_any (m : Int)
  rw [hright] at hR
  have HR := hide hR
  have hz := div_zero_of hN
  clear hright hR
  go_enter Tryz.func62, Tryz.ntmps62
  go_wp2_with (go_at_call 92; refine (HR.out _).mono ?_; rintro e w' ⟨rfl, rfl⟩)
  go_ret
  exact ⟨rfl, ((Below.refl _ _).alloc (Nat.le_refl _) _).alloc (by simp) _⟩

set_option maxHeartbeats 1000000 in
theorem length_num (w : World) (N m : Nat) :
    Calls Tryz.prog 63 #[.agg #[.int .u64 (N : Int), .slice none 0 0], .agg #[.int .i64 0, .int .i64 (m : Int)]] w fun e w' => e = .returned (.int .i64 (m : Int)) ∧ Below w.heap.size w w' := by
  go_enter Tryz.func63, Tryz.ntmps63
  go_wp2
  go_ret
  exact ⟨rfl, ((Below.refl _ _).alloc (Nat.le_refl _) _).alloc (by simp) _⟩

/-- a number's bytes, the highest one first: the first j of m. -/
def numBytes (N m j : Nat) : List UInt8 := (List.range j).map fun i => UInt8.ofNat (N / 2 ^ (8 * (m - 1 - i)))
theorem numBytes_succ (N m j : Nat) : numBytes N m (j + 1) = numBytes N m j ++ [UInt8.ofNat (N / 2 ^ (8 * (m - 1 - j)))] := by simp [numBytes, List.range_succ]
theorem length_numBytes (N m j : Nat) : (numBytes N m j).length = j := by simp [numBytes]

theorem one_byte (N p : Nat) : #[Value.int .u8 ((N : Int) / 2 ^ (8 * p) % 256)] = ([UInt8.ofNat (N / 2 ^ (8 * p))].map byteV).toArray := by
  have e : ((N : Int) / 2 ^ (8 * p)) = ((N / 2 ^ (8 * p) : Nat) : Int) := by simp
  simp only [List.map_cons, List.map_nil, byteV, e]
  congr 3

/-- w' is w with new blocks, and with writes to v0's row alone; v lies in that row, or in a new one. -/
def GrewFrom (w w' : World) (v0 v : Value) : Prop := w.grownBy w' v0.ownBlock ∧ (v.ownBlock = v0.ownBlock ∨ ∀ k, v.ownBlock = some k → w.heap.size ≤ k)
theorem GrewFrom.refl (w : World) (v : Value) : GrewFrom w w v v := ⟨World.grownBy.refl w _, .inl rfl⟩
theorem GrewFrom.step {w wr w4 : World} {v0 v v4 : Value} {o : Obj} (h : GrewFrom w wr v0 v) (hg : (wr.alloc o).grownBy w4 v.ownBlock) (hat : v4.ownBlock = v.ownBlock ∨ v4.ownBlock = some (wr.heap.size + 1)) : GrewFrom w w4 v0 v4 := by
  have h1 : wr.grownBy (wr.alloc o) v.ownBlock := World.grownBy_alloc wr o _
  have h2 := grown_trans h1 hg
  refine ⟨⟨h2.os.trans h.1.os, h2.tape.trans h.1.tape, h2.output.trans h.1.output, Nat.le_trans h.1.size h2.size, fun k hk hr => ?_⟩, ?_⟩
  · refine (h2.block k (Nat.lt_of_lt_of_le hk h.1.size) ?_).trans (h.1.block k hk hr)
    rcases h.2 with e | e
    · rw [e]; exact hr
    · intro e2; have := e k e2.symm; omega
  · rcases hat with e | e
    · rw [e]; exact h.2
    · refine .inr (fun k hk => ?_)
      rw [e] at hk
      have := h.1.size
      injection hk with hk
      omega

set_option maxHeartbeats 2000000 in
theorem put_num (w : World) (base N m : Nat) (vb : Value) (b : List UInt8) (hm1 : 1 ≤ m) (hm8 : m ≤ 8) (hown : OwnB w base vb b) (hbl : b.length ≤ 70000) (hbase : base ≤ w.heap.size) :
    Calls Tryz.prog 64 #[vb, .agg #[.int .u64 (N : Int), .slice none 0 0], .agg #[.int .i64 0, .int .i64 (m : Int)]] w fun e w' => ∃ v, e = .returned v ∧ OwnB w' base v (b ++ numBytes N m m) ∧ w.grownBy w' vb.ownBlock := by
  obtain ⟨W, hW, hbW, hzW, hvW⟩ := two_vars w #[.int .u64 (N : Int), .slice none 0 0] #[.int .i64 0, .int .i64 (m : Int)] 120 121
  have hown0 : OwnB W base vb b := by rw [hW]; exact (hown.alloc _).alloc _
  have hN0 : W.heap[w.heap.size]? = some (.cells #[.int .u64 (N : Int), .slice none 0 0] 120 (0, 0)) := by
    rw [hW, Below.heap_alloc _ _ _ (by simp)]; exact heap_alloc_new w _
  go_enter Tryz.func64, Tryz.ntmps64
  go_wp2_with fail
  rw [← hW]
  clear hW hvW
  go_loopw [0, 7] (fun v i wr => ∃ (j : Nat), j ≤ m ∧ i = .int .i64 ((m : Int) - 1 - (j : Int)) ∧ OwnB wr base v (b ++ numBytes N m j) ∧ GrewFrom W wr vb v ∧ wr.heap[w.heap.size]? = some (.cells #[.int .u64 (N : Int), .slice none 0 0] 120 (0, 0)))
    (fun _ i _ => (intOf i + 1).toNat)
  case atStart => exact ⟨0, by omega, by simp, by simpa [numBytes] using hown0, GrewFrom.refl _ _, hN0⟩
  case round =>
    obtain ⟨j, hj, rfl, hownr, hbr, hNr⟩ := hrel
    clear hown hown0 hN0
    by_cases hlt : j < m
    · obtain ⟨p, hp⟩ : ∃ p : Nat, (m : Int) - 1 - (j : Int) = (p : Int) := ⟨m - 1 - j, by omega⟩
      have hpm : p ≤ 7 := by omega
      rw [hp]
      have HP := hide hp
      clear hp
      have hcN : wr.cell? ⟨w.heap.size, 0, none⟩ = some (.int .u64 (N : Int)) := cell_of_row wr _ 0 _ _ (0, 0) hNr
      have hcs := hide (one_byte N p)
      obtain ⟨L, hL⟩ : ∃ L, L = b ++ numBytes N m j := ⟨_, rfl⟩
      have hLl : L.length ≤ 80000 := by rw [hL]; simp [length_numBytes]; omega
      rw [← hL] at hownr
      have HL := hide hL
      clear hL
      go_wp2_with (at_builtin; refine wpList_app_bytes rfl (.tmp 19) (.tmp 26) rfl base u0 L [UInt8.ofNat (N / 2 ^ (8 * p))] (wr.heap.size + 1) 1 (some ⟨wr.heap.size, 0, none⟩) rfl rfl (by exact hownr.alloc _) (by exact Byt.lit wr [UInt8.ofNat (N / 2 ^ (8 * p))] _ _ (0, 0) hcs.out) (fun e => by cases e) (by simp; omega) (by have := hbr.1.size; have := hbW.size; simp; omega) ?_)
      intro v4 w4 hown4 hgr4 hat4
      have hb4 : GrewFrom W w4 vb v4 := hbr.step hgr4 hat4
      have hN4 : w4.heap[w.heap.size]? = some (.cells #[.int .u64 (N : Int), .slice none 0 0] 120 (0, 0)) := by
        have hlt2 : w.heap.size < wr.heap.size := (Array.getElem?_eq_some_iff.1 hNr).1
        refine (hgr4.block _ (by simp; omega) ?_).trans ((Below.heap_alloc wr _ _ hlt2).trans hNr)
        rcases own_ne hownr hNr (by decide) with e | e
        · rw [e]; simp
        · exact fun e2 => e e2.symm
      have hown5 : OwnB w4 base v4 (b ++ numBytes N m (j + 1)) := by
        rw [numBytes_succ, ← List.append_assoc, ← HL.out, show m - 1 - j = p from by have := HP.out; omega]
        exact hown4
      have HO := hide hown5
      clear hown4 hown5 hgr4 hat4 hownr hNr hbr
      go_wp2
      go_roundw
      case rel => exact ⟨j + 1, by omega, by have := HP.out; exact congrArg (Value.int IntKind.i64) (by omega), HO.out, hb4, hN4⟩
      case measure => simp [intOf]
    · obtain rfl : j = m := by omega
      rw [show (j : Int) - 1 - (j : Int) = -1 from by omega]
      clear hlt
      go_wp2
      go_ret
      exact ⟨_, rfl, hownr, grown_trans (Below.row hbW _) hbr.1⟩
end Go.Proofs.YtihakjcccbionaaGreatDoor

end
section
/-
  The walk of Lay at one number.
-/
namespace Go.Proofs.YtihakjcccbionaaGreatDoor
open Go.RowKit
set_option maxRecDepth 100000

theorem below_undrew {B : Nat} {w w' : World} (h : Below B w.drew w') : Below B w w' := ⟨h.os, h.tape, h.output, h.size, h.block⟩
/-- the two cells of a value and the two cells of a piece, behind new blocks. -/
theorem four_keep {W w' : World} {bv O : Nat} {a b c d : Value} (hb : Below W.heap.size W w') (h1 : bv < W.heap.size) (h2 : O < W.heap.size)
    (k : W.cell? ⟨bv, 0, none⟩ = some a ∧ W.cell? ⟨bv, 1, none⟩ = some b ∧ W.cell? ⟨O, 0, none⟩ = some c ∧ W.cell? ⟨O, 1, none⟩ = some d) :
    w'.cell? ⟨bv, 0, none⟩ = some a ∧ w'.cell? ⟨bv, 1, none⟩ = some b ∧ w'.cell? ⟨O, 0, none⟩ = some c ∧ w'.cell? ⟨O, 1, none⟩ = some d :=
  ⟨(hb.cell (p := ⟨bv, 0, none⟩) h1).trans k.1, (hb.cell (p := ⟨bv, 1, none⟩) h1).trans k.2.1, (hb.cell (p := ⟨O, 0, none⟩) h2).trans k.2.2.1, (hb.cell (p := ⟨O, 1, none⟩) h2).trans k.2.2.2⟩

set_option maxHeartbeats 4000000 in
theorem lay_one (w : World) (bv bo N m : Nat) (hm1 : 1 ≤ m) (hm8 : m ≤ 8) (hN : N < 256 ^ m) (hv : w.heap[bv]? = some (.cells #[.int .u64 (N : Int), .slice none 0 0] 120 (0, 0))) (ho : w.heap[bo]? = some (.cells #[.int .i64 0, .int .i64 (m : Int)] 121 (0, 0))) :
    Calls Tryz.prog 30 #[.slice (some ⟨bv, 0, none⟩) 1 1, .slice (some ⟨bo, 0, none⟩) 1 1] w fun e w' => ∃ A c, e = .returned (.tuple #[.slice A m c, .int .i64 0]) ∧ OwnB w' w.heap.size (.slice A m c) (numBytes N m m) ∧ Below w.heap.size w w' := by
  have hbv : bv < w.heap.size := (Array.getElem?_eq_some_iff.1 hv).1
  have hbo : bo < w.heap.size := (Array.getElem?_eq_some_iff.1 ho).1
  go_enter Tryz.func30, Tryz.ntmps30
  go_wp2
  go_loopw [6, 7, 8, 19] (fun v _ _ i wr => ∃ (j : Nat) (b : List UInt8), j ≤ 1 ∧ i = .int .i64 (j : Int) ∧ (j = 0 → v = .slice none 0 0) ∧ OwnB wr w.heap.size v b ∧ Below w.heap.size w wr ∧ Hid (b = if j = 0 then [] else numBytes N m m))
    (fun _ _ _ i _ => 1 - (intOf i).toNat)
  case atStart => exact ⟨0, [], by omega, rfl, fun _ => rfl, OwnB.nil _ _, Below.refl _ _, hide (by simp)⟩
  case round =>
    obtain ⟨j, b, hj, rfl, hv0, hown, hb, hbb⟩ := hrel
    by_cases hlt : j < 1
    · obtain rfl : j = 0 := by omega
      have hb0 : b = [] := by have := hbb.out; simpa using this
      subst hb0
      obtain rfl := hv0 rfl
      clear hbb hlt hj hv0
      have hvr : wr.heap[bv]? = some (.cells #[.int .u64 (N : Int), .slice none 0 0] 120 (0, 0)) := (hb.block bv hbv).trans hv
      have hor : wr.heap[bo]? = some (.cells #[.int .i64 0, .int .i64 (m : Int)] 121 (0, 0)) := (hb.block bo hbo).trans ho
      have v0 : wr.cell? ⟨bv, 0, none⟩ = some (.int .u64 (N : Int)) := cell_of_row wr bv 0 _ _ (0, 0) hvr
      have v1 : wr.cell? ⟨bv, 1, none⟩ = some (.slice none 0 0) := cell_of_row wr bv 1 _ _ (0, 0) hvr
      have o0 : wr.cell? ⟨bo, 0, none⟩ = some (.int .i64 0) := cell_of_row wr bo 0 _ _ (0, 0) hor
      have o1 : wr.cell? ⟨bo, 1, none⟩ = some (.int .i64 (m : Int)) := cell_of_row wr bo 1 _ _ (0, 0) hor
      have hO := two_cells wr (.int .i64 0) (.int .i64 (m : Int)) 121
      have hbW : Below wr.heap.size wr (wr.alloc (.cells #[.int .i64 0, .int .i64 (m : Int)] 121)) := (Below.refl _ _).alloc (Nat.le_refl _) _
      have hzW : (wr.alloc (.cells #[.int .i64 0, .int .i64 (m : Int)] 121)).heap.size = wr.heap.size + 1 := by simp
      rw [show ((0 : Nat) : Int) = 0 from rfl]
      have hsz := hb.size
      have hwr : IntKind.i64.wrap 65535 = 65535 := wrap_in _ (by omega) (by omega)
      go_wp2
      obtain ⟨W, hW⟩ : ∃ W, W = wr.alloc (.cells #[.int .i64 0, .int .i64 (m : Int)] 121) := ⟨_, rfl⟩
      rw [← hW] at hO hbW hzW ⊢
      have k0 := (hbW.cell (p := ⟨bv, 0, none⟩) (by show bv < _; omega)).trans v0
      have k1 := (hbW.cell (p := ⟨bv, 1, none⟩) (by show bv < _; omega)).trans v1
      obtain ⟨k2, k3⟩ := hO
      have HZ := hide hzW
      have hbv2 : bv < W.heap.size := by omega
      have hO2 : wr.heap.size < W.heap.size := by omega
      have HK := hide (And.intro k0 (And.intro k1 (And.intro k2 k3)))
      have HBW := hide (hb.trans (hbW.mono hsz))
      clear hW v0 v1 o0 o1 hvr hor hown hzW hb hbW
      go_region_held3 (fun w' => w'.cell? ⟨bv, 0, none⟩ = some (.int .u64 (N : Int)) ∧ w'.cell? ⟨bv, 1, none⟩ = some (.slice none 0 0) ∧ w'.cell? ⟨wr.heap.size, 0, none⟩ = some (.int .i64 0) ∧ w'.cell? ⟨wr.heap.size, 1, none⟩ = some (.int .i64 (m : Int)))
        (first | go_keep)
        (first | (go_at_call 62; refine (fits_num _ N m hm1 hm8 hN).mono ?_; rintro e w3 ⟨rfl, hb3⟩; have HB3 : Hid (Below W.heap.size W w3) := hide (below_undrew hb3); obtain ⟨p0, p1, p2, p3⟩ := four_keep (W := W) HB3.out hbv2 hO2 HK.out))
      clear k0 k1 k2 k3
      go_wp2
      go_region_held3 (fun w' => w'.cell? ⟨bv, 0, none⟩ = some (.int .u64 (N : Int)) ∧ w'.cell? ⟨bv, 1, none⟩ = some (.slice none 0 0) ∧ w'.cell? ⟨wr.heap.size, 0, none⟩ = some (.int .i64 0) ∧ w'.cell? ⟨wr.heap.size, 1, none⟩ = some (.int .i64 (m : Int)))
        (first | go_keep)
        (first | (go_at_call 63; refine (length_num _ N m).mono ?_; rintro e w4 ⟨rfl, hb4⟩; have HB4 : Hid (Below W.heap.size W w4) := hide (HB3.out.trans ((show Below w3.heap.size w3 w4 from below_undrew hb4).mono HB3.out.size)); obtain ⟨q0, q1, q2, q3⟩ := four_keep (W := W) HB4.out hbv2 hO2 HK.out))
      clear p0 p1 p2 p3
      go_wp2
      go_region_held3 (fun w' => w'.cell? ⟨bv, 0, none⟩ = some (.int .u64 (N : Int)) ∧ w'.cell? ⟨bv, 1, none⟩ = some (.slice none 0 0) ∧ w'.cell? ⟨wr.heap.size, 0, none⟩ = some (.int .i64 0) ∧ w'.cell? ⟨wr.heap.size, 1, none⟩ = some (.int .i64 (m : Int)))
        (first | go_keep)
        (first | (go_at_call 64; refine (put_num _ w.heap.size N m (.slice none 0 0) [] hm1 hm8 (OwnB.nil _ _) (by simp) (by have := HBW.out.size; have := HB4.out.size; simp; omega)).mono ?_; rintro e w5 ⟨v5, rfl, hown5, hg5⟩; have HB5 : Hid (Below W.heap.size W w5) := hide (HB4.out.trans ((below_undrew (show Below w4.drew.heap.size w4.drew w5 from ⟨hg5.os, hg5.tape, hg5.output, hg5.size, fun k hk => hg5.block k hk (by simp [Value.ownBlock])⟩)).mono HB4.out.size)); obtain ⟨r0, r1, r2, r3⟩ := four_keep (W := W) HB5.out hbv2 hO2 HK.out))
      have hb6 : Below w.heap.size w w5 := HBW.out.trans (HB5.out.mono HBW.out.size)
      have HB6 := hide hb6
      have hown6 : OwnB w5 w.heap.size v5 (numBytes N m m) := by simpa using hown5
      have HO6 := hide hown6
      clear r0 r1 r2 r3 hown5 hown6 hb6 hg5
      go_wp2
      go_roundw
      case rel => exact ⟨1, numBytes N m m, by omega, rfl, (fun e => absurd e (by decide)), HO6.out, HB6.out, hide rfl⟩
      case measure => simp [intOf]
    · obtain rfl : j = 1 := by omega
      have hbe : b = numBytes N m m := by have := hbb.out; simpa using this
      subst hbe
      clear hbb hlt hj hv0
      obtain ⟨A6, c6, hv6, _⟩ := hown.shape
      rw [length_numBytes] at hv6
      subst hv6
      rw [show ((1 : Nat) : Int) = 1 from rfl]
      have HO := hide hown
      clear hown
      go_wp2
      go_ret2
      exact ⟨A6, c6, rfl, HO.out, hb⟩
end Go.Proofs.YtihakjcccbionaaGreatDoor

end
section
/-
  'append(v, make([]byte, k)...)' where v is the call's own.
-/
namespace Go.Proofs.YtihakjcccbionaaGreatDoor
open Go.RowKit
set_option maxRecDepth 100000

/-- k zeros. -/
def zerosL (k : Nat) : List UInt8 := List.replicate k 0
theorem length_zerosL (k : Nat) : (zerosL k).length = k := List.length_replicate ..
theorem zeroCells_u8 (k : Nat) : Builtin.zeroCells (Value.cells (.int .u8 0)) k = ((zerosL k).map byteV).toArray := by
  have hs : (Value.cells (.int .u8 0)) = #[.int .u8 0] := by simp [Value.cells]
  rw [hs]
  apply Array.ext
  · simp [Builtin.zeroCells, zerosL]
  · intro i h1 h2
    simp [Builtin.zeroCells, zerosL, byteV, Nat.mod_one]

theorem run_app_zeros (w : World) (base ty : Nat) (v : Value) (l0 : List UInt8) (k : Nat) (hown : OwnB w base v l0) (hlen : l0.length + k ≤ 140737488355328) (hbase : base ≤ w.heap.size) :
    ∃ v' w', (Builtin.append_ #[28, 3] ty #[v, .int .i64 (k : Int)]).run Tryz.prog w = .ok v' w' ∧ OwnB w' base v' (l0 ++ zerosL k) ∧ w.grownBy w' v.ownBlock ∧ (v'.ownBlock = v.ownBlock ∨ v'.ownBlock = some w.heap.size) := by
  obtain ⟨i0, hi, hz0, hz1, hz2⟩ := info_parts info_u8
  have hw : IntKind.i64.wrap (k : Int) = k := by rw [IntKind.wrap_i64]; omega
  have hneg : ¬ ((k : Int) < 0) := by omega
  have hT := Tryz.underlying28
  have hI := Tryz.underlying3
  have h48i : ¬ (281474976710656 < (k : Int) * (i0.bytes : Int)) := by rw [hz2]; omega
  have hlz : ((l0 ++ zerosL k).map byteV).length = (l0.length + k) * 1 := by simp [length_zerosL]
  have grown : ∀ (old : Nat), old < l0.length + k → ∀ (row : Option Nat),
      OwnB (w.drew.alloc (.cells ((l0.map byteV).toArray ++ Builtin.zeroCells (Value.cells (.int .u8 0)) k ++ Builtin.zeroCells (Value.cells (.int .u8 0)) (grownCap w (l0.length + k) old 5 - (l0.length + k))) 5)) base
        (.slice (some ⟨w.heap.size, 0, none⟩) (l0.length + k) (grownCap w (l0.length + k) old 5)) (l0 ++ zerosL k) ∧
      w.grownBy (w.drew.alloc (.cells ((l0.map byteV).toArray ++ Builtin.zeroCells (Value.cells (.int .u8 0)) k ++ Builtin.zeroCells (Value.cells (.int .u8 0)) (grownCap w (l0.length + k) old 5 - (l0.length + k))) 5)) row := by
    intro old ho row
    have hge := grownCap_ge w (l0.length + k) old 5
    have hcm : grownCap w (l0.length + k) old 5 ≤ maxLen := grownCap_le_maxLen w (l0.length + k) old 5 (by unfold maxLen; omega)
    have hll : (l0 ++ zerosL k).length = l0.length + k := by simp [length_zerosL]
    refine ⟨?_, ⟨rfl, rfl, rfl, by simp, fun j hj _ => Below.heap_alloc w.drew _ j hj⟩⟩
    unfold OwnB
    rw [hll]
    refine ⟨hlz, .inr ⟨w.heap.size, _, _, rfl, hbase, heap_alloc_new w.drew _, hge, hcm, ?_, ?_⟩⟩
    · simp [Array.size_append, size_zeroCells, Value.cells]; omega
    · rw [zeroCells_u8 k]
      simp only [Array.toList_append, List.append_assoc, List.map_append]
      rw [← List.append_assoc]
      refine List.take_left' ?_
      simp [length_zerosL]
  rcases hown.2 with ⟨rfl, h0⟩ | ⟨g, cap, cur, rfl, hbg, hg, hnc, hcm, hcs, htake⟩
  · obtain rfl : l0 = [] := List.eq_nil_of_length_eq_zero h0
    by_cases hk : k = 0
    · subst hk
      refine ⟨.slice none 0 0, w, ?_, OwnB.nil _ _, World.grownBy.refl w _, .inl rfl⟩
      simp [Builtin.append_, run_underlying hT, run_underlying hI, sizeOf, typeInfo, hi, asInt, asIntOf, IntKind.wrap_i64]
    · have hr := Lib.run_append_nil_zeros (P := Tryz.prog) w 28 3 ty 5 i0 (.int .u8 0) .i64 .i64 hT hI hi hz0 k (by omega) (by omega) (by omega) (by rw [hz2]; omega)
      have hgr := grown 0 (by simp; omega) (Value.ownBlock (.slice none 0 0))
      simp only [List.length_nil, Nat.zero_add, List.map_nil, List.nil_append, Array.empty_append] at hgr ⊢
      exact ⟨_, _, hr, hgr.1, hgr.2, Or.inr rfl⟩
  · by_cases hroom : l0.length + k ≤ cap
    · have hst := run_storeCells_at Tryz.prog g l0.length 5 ((zerosL k).map byteV) 0 cur w hg (by simp [length_zerosL]; omega) (byteV_one _)
      simp only [Nat.add_zero] at hst
      have hzc : (Builtin.zeroCells (Value.cells (.int .u8 0)) k).toList = (zerosL k).map byteV := by rw [zeroCells_u8]
      refine ⟨.slice (some ⟨g, 0, none⟩) (l0.length + k) cap, w.setRow g (cur.toList.take l0.length ++ (zerosL k).map byteV ++ cur.toList.drop (l0.length + ((zerosL k).map byteV).length)).toArray, ?_, ?_, ?_, .inl rfl⟩
      · by_cases hk : k = 0
        · subst hk
          simp only [zerosL, List.replicate_zero, List.map_nil] at hst
          simp [Builtin.append_, run_underlying hT, run_underlying hI, sizeOf, typeInfo, hi, hz1, hz2, asInt, asIntOf, IntKind.wrap_i64, hnc, Addr.add_lit, hst, zerosL]
        · have hns : ¬ (k * 1 = 0) := by omega
          simp [Builtin.append_, run_underlying hT, run_underlying hI, sizeOf, typeInfo, zeroValue, hi, hz0, hz1, hz2, asInt, asIntOf, hw, hk, hneg, hroom, Addr.add_lit, hzc, hst]
          intro h; exact absurd h (by omega)
      · unfold OwnB
        have hll : (l0 ++ zerosL k).length = l0.length + k := by simp [length_zerosL]
        rw [hll]
        refine ⟨hlz, .inr ⟨g, cap, _, rfl, hbg, setRow_heap w g cur _ _ _ hg, hroom, hcm, ?_, ?_⟩⟩
        · simp [length_zerosL]; omega
        · have ht : cur.toList.take l0.length = l0.map byteV := by simpa using htake
          rw [ht, List.map_append]
          refine List.take_left' ?_
          simp [length_zerosL]
      · exact ⟨rfl, rfl, rfl, by simp, fun j _ hj => setRow_other w g j _ (fun e => hj (by simp [Value.ownBlock, e]))⟩
    · have holds : ∀ j u, (l0.map byteV)[j]? = some u → w.cell? ((⟨g, 0, none⟩ : Addr).add j) = some u := World.ownsRow.cells (g := g) hown rfl
      have hf := run_firstCells_some (P := Tryz.prog) w.drew i0.size l0.length ⟨g, 0, none⟩ l0.length cap (l0.map byteV) (by simp [hz1]) (by simpa using holds)
      have hr := Lib.run_append_grow_zeros (P := Tryz.prog) w 28 3 ty 5 i0 (.int .u8 0) .i64 .i64 hT hI hi hz0 (some ⟨g, 0, none⟩) l0.length cap (l0.map byteV) hf k (by omega) (by omega) (by omega) (by omega) (by rw [hz2]; omega) (growslice_fits (by omega) (by rw [hz2]; omega))
      have hgr := grown cap (by omega) (Value.ownBlock (.slice (some ⟨g, 0, none⟩) l0.length cap))
      exact ⟨_, _, hr, hgr.1, hgr.2, Or.inr rfl⟩

theorem wpList_app_zeros {w : World} {ops : Array Oper} {rest : List Oper} {o : Oper} {a : Act} {Q : Exit → Act → World → Prop} (hgd : o.guard = none) (s x : Operand)
    (ho : o.op = .call { callee := .builtin .append, args := #[s, x], argTypes := #[28, 3] }) (base : Nat) (v : Value) (l0 : List UInt8) (k : Nat)
    (hs : a.eval s = v) (hx : a.eval x = .int .i64 (k : Int)) (hown : OwnB w base v l0) (hlen : l0.length + k ≤ 140737488355328) (hbase : base ≤ w.heap.size)
    (h : ∀ v' w', OwnB w' base v' (l0 ++ zerosL k) → w.grownBy w' v.ownBlock → (v'.ownBlock = v.ownBlock ∨ v'.ownBlock = some w.heap.size) → wpList Tryz.prog ops Q rest (a.put o.dst v') w') : wpList Tryz.prog ops Q (o :: rest) a w := by
  obtain ⟨v', w', hr, h2, h3, h4⟩ := run_app_zeros w base o.type v l0 k hown hlen hbase
  refine wpList_plain hgd fun K hK => ?_
  unfold Oper.wp execOp
  simp only [ho, resolve, invoke, builtin, Sem.run_bind, Sem.run_pure, Result.andThen_ok, List.map_toArray, List.map_cons, List.map_nil, hs, hx, hr]
  exact hK _ _ (h v' w' h2 h3 h4)
end Go.Proofs.YtihakjcccbionaaGreatDoor

end
section
/-
  The walks of Lay's parts at whatever piece: fits, length.
-/
namespace Go.Proofs.YtihakjcccbionaaGreatDoor
open Go.RowKit
set_option maxRecDepth 100000

/-- whether what is laid can be what its piece is said to be. -/
def fitsS (N bl : Nat) (kd sz : Int) : Bool :=
  if kd = 0 then decide (1 ≤ sz ∧ sz ≤ 8) && (decide (N < 256 ^ sz.toNat) && decide (bl = 0))
  else if kd = 1 then decide ((bl : Int) = sz) && decide (N = 0)
  else if kd = 2 ∨ kd = 3 then decide (0 ≤ sz) && (decide (N = 0) && decide (bl = 0))
  else if kd = 4 then decide (sz = 0) && decide (N = 0)
  else false
theorem div_not_zero {N m : Nat} (h : ¬ N < 256 ^ m) : (((N : Int) / 2 ^ (8 * m)) == 0) = false := by
  rw [pow256] at h
  have e : ((N : Int) / 2 ^ (8 * m)) = ((N / 2 ^ (8 * m) : Nat) : Int) := by simp
  have h1 : 0 < N / 2 ^ (8 * m) := Nat.div_pos (by omega) (Nat.pow_pos (by omega))
  rw [e, beq_eq_false_iff_ne]; omega
theorem beq_dec (a b : Int) : (a == b) = decide (a = b) := by by_cases h : a = b <;> simp [h]

set_option maxHeartbeats 2000000 in
theorem fits_any (w : World) (N bl c : Nat) (A : Option Addr) (kd sz : Int) :
    Calls Tryz.prog 62 #[.agg #[.int .u64 (N : Int), .slice A bl c], .agg #[.int .i64 kd, .int .i64 sz]] w fun e w' => e = .returned (.bool (fitsS N bl kd sz)) ∧ Below w.heap.size w w' := by
  have hbw : ∀ (a b : Obj), Below w.heap.size w ((w.alloc a).alloc b) := fun a b => ((Below.refl _ _).alloc (Nat.le_refl _) _).alloc (by simp) _
  by_cases h0 : kd = 0
  · subst h0
    by_cases hs : 1 ≤ sz ∧ sz ≤ 8
    · obtain ⟨m, rfl⟩ : ∃ m : Nat, sz = (m : Int) := ⟨sz.toNat, by omega⟩
      have hright : (decide ((1 : Int) ≤ (m : Int)) && decide ((m : Int) ≤ 8)) = true := by simp; omega
      have hR := rightSize_any (m : Int)
      rw [hright] at hR
      have HR := hide hR
      have hm1 : 1 ≤ m := by omega
      have hm8 : m ≤ 8 := by omega
      by_cases hz : N < 256 ^ m
      · have hd := div_zero_of hz
        have hf : fitsS N bl 0 (m : Int) = decide ((bl : Int) = 0) := by
          unfold fitsS
          rw [if_pos rfl, decide_eq_true hs, Int.toNat_natCast, decide_eq_true hz, Bool.true_and, Bool.true_and]
          by_cases h : bl = 0 <;> simp [h]
        rw [hf]
        clear hright hR hf
        go_enter Tryz.func62, Tryz.ntmps62
        go_wp2_with (go_at_call 92; refine (HR.out _).mono ?_; rintro e w' ⟨rfl, rfl⟩)
        go_ret
        exact ⟨by first | rfl | (rw [← beq_dec]), hbw _ _⟩
      · have hd := div_not_zero hz
        have hf : fitsS N bl 0 (m : Int) = false := by
          unfold fitsS
          rw [if_pos rfl, Int.toNat_natCast, decide_eq_false hz, Bool.false_and, Bool.and_false]
        rw [hf]
        clear hright hR hf
        go_enter Tryz.func62, Tryz.ntmps62
        go_wp2_with (go_at_call 92; refine (HR.out _).mono ?_; rintro e w' ⟨rfl, rfl⟩)
        go_ret
        exact ⟨rfl, hbw _ _⟩
    · have hright : (decide ((1 : Int) ≤ sz) && decide (sz ≤ 8)) = false := by
        rw [Bool.eq_false_iff]; intro h; simp at h; exact hs h
      have hR := rightSize_any sz
      rw [hright] at hR
      have HR := hide hR
      have hf : fitsS N bl 0 sz = false := by
        unfold fitsS
        rw [if_pos rfl, decide_eq_false hs, Bool.false_and]
      rw [hf]
      clear hright hR hf
      go_enter Tryz.func62, Tryz.ntmps62
      go_wp2_with (go_at_call 92; refine (HR.out _).mono ?_; rintro e w' ⟨rfl, rfl⟩)
      go_ret
      exact ⟨rfl, hbw _ _⟩
  · by_cases h1 : kd = 1
    · subst h1
      have hf : fitsS N bl 1 sz = (decide ((bl : Int) = sz) && decide ((N : Int) = 0)) := by
        unfold fitsS
        rw [if_neg h0, if_pos rfl]
        by_cases h : N = 0 <;> simp [h]
      rw [hf]
      clear hf
      by_cases hb : (bl : Int) = sz
      · rw [decide_eq_true hb, Bool.true_and]
        have hbi : ((bl : Int) == sz) = true := by simpa using hb
        have HB := hide hb
        clear hb
        go_enter Tryz.func62, Tryz.ntmps62
        go_wp2
        go_ret
        exact ⟨by first | rfl | (rw [← beq_dec]), hbw _ _⟩
      · rw [decide_eq_false hb, Bool.false_and]
        have hbi : ((bl : Int) == sz) = false := by simpa using hb
        have HB := hide hb
        clear hb
        go_enter Tryz.func62, Tryz.ntmps62
        go_wp2
        go_ret
        exact ⟨rfl, hbw _ _⟩
    · by_cases h23 : kd = 2 ∨ kd = 3
      · have hf : fitsS N bl kd sz = (decide (0 ≤ sz) && (decide ((N : Int) = 0) && decide ((bl : Int) = 0))) := by
          unfold fitsS
          rw [if_neg h0, if_neg h1, if_pos h23]
          by_cases h : N = 0 <;> by_cases h' : bl = 0 <;> simp [h, h']
        rw [hf]
        clear hf
        by_cases hz : 0 ≤ sz
        · rw [decide_eq_true hz, Bool.true_and]
          by_cases hN : N = 0
          · subst hN
            rw [show ((0 : Nat) : Int) = 0 from rfl, decide_eq_true (rfl : (0 : Int) = 0), Bool.true_and]
            rcases h23 with rfl | rfl <;>
            · go_enter Tryz.func62, Tryz.ntmps62
              go_wp2
              go_ret
              exact ⟨by first | rfl | (rw [← beq_dec]), hbw _ _⟩
          · have hNi : ((N : Int) == 0) = false := by rw [beq_eq_false_iff_ne]; omega
            rw [decide_eq_false (show ¬ (N : Int) = 0 from by omega), Bool.false_and]
            clear hN
            rcases h23 with rfl | rfl <;>
            · go_enter Tryz.func62, Tryz.ntmps62
              go_wp2
              go_ret
              exact ⟨rfl, hbw _ _⟩
        · rw [decide_eq_false hz, Bool.false_and]
          rcases h23 with rfl | rfl <;>
          · go_enter Tryz.func62, Tryz.ntmps62
            go_wp2
            go_ret
            exact ⟨rfl, hbw _ _⟩
      · by_cases h4 : kd = 4
        · subst h4
          have hf : fitsS N bl 4 sz = (decide (sz = 0) && decide ((N : Int) = 0)) := by
            unfold fitsS
            rw [if_neg h0, if_neg h1, if_neg h23, if_pos rfl]
            by_cases h : N = 0 <;> simp [h]
          rw [hf]
          clear hf
          by_cases hz : sz = 0
          · subst hz
            rw [decide_eq_true (rfl : (0 : Int) = 0), Bool.true_and]
            go_enter Tryz.func62, Tryz.ntmps62
            go_wp2
            go_ret
            exact ⟨by first | rfl | (rw [← beq_dec]), hbw _ _⟩
          · have hzi : (sz == 0) = false := by simpa using hz
            rw [decide_eq_false hz, Bool.false_and]
            go_enter Tryz.func62, Tryz.ntmps62
            go_wp2
            go_ret
            exact ⟨rfl, hbw _ _⟩
        · have hf : fitsS N bl kd sz = false := by
            unfold fitsS
            rw [if_neg h0, if_neg h1, if_neg h23, if_neg h4]
          rw [hf]
          have k0 : (kd == 0) = false := by simpa using h0
          have k1 : (kd == 1) = false := by simpa using h1
          have k2 : (kd == 2) = false := by rw [beq_eq_false_iff_ne]; omega
          have k3 : (kd == 3) = false := by rw [beq_eq_false_iff_ne]; omega
          have k4 : (kd == 4) = false := by simpa using h4
          clear hf
          go_enter Tryz.func62, Tryz.ntmps62
          go_wp2
          go_ret
          exact ⟨rfl, hbw _ _⟩

theorem length_any (w : World) (N bl c : Nat) (A : Option Addr) (kd sz : Int) :
    Calls Tryz.prog 63 #[.agg #[.int .u64 (N : Int), .slice A bl c], .agg #[.int .i64 kd, .int .i64 sz]] w fun e w' => e = .returned (.int .i64 (if kd = 4 then (bl : Int) else sz)) ∧ Below w.heap.size w w' := by
  have hbw : ∀ (a b : Obj), Below w.heap.size w ((w.alloc a).alloc b) := fun a b => ((Below.refl _ _).alloc (Nat.le_refl _) _).alloc (by simp) _
  by_cases h4 : kd = 4
  · subst h4
    rw [if_pos rfl]
    go_enter Tryz.func63, Tryz.ntmps63
    go_wp2
    go_ret
    exact ⟨rfl, hbw _ _⟩
  · rw [if_neg h4]
    have k4 : (kd == 4) = false := by simpa using h4
    go_enter Tryz.func63, Tryz.ntmps63
    go_wp2
    go_ret
    exact ⟨rfl, hbw _ _⟩
end Go.Proofs.YtihakjcccbionaaGreatDoor

end
section
/-
  The walk of Lay's put at whatever piece.
-/
namespace Go.Proofs.YtihakjcccbionaaGreatDoor
open Go.RowKit
set_option maxRecDepth 100000

set_option maxHeartbeats 2000000 in
theorem put_numg (w : World) (base N m : Nat) (vs : Value) (vb : Value) (b : List UInt8) (hm1 : 1 ≤ m) (hm8 : m ≤ 8) (hown : OwnB w base vb b) (hbl : b.length ≤ 70000) (hbase : base ≤ w.heap.size) :
    Calls Tryz.prog 64 #[vb, .agg #[.int .u64 (N : Int), vs], .agg #[.int .i64 0, .int .i64 (m : Int)]] w fun e w' => ∃ v, e = .returned v ∧ OwnB w' base v (b ++ numBytes N m m) ∧ w.grownBy w' vb.ownBlock := by
  obtain ⟨W, hW, hbW, hzW, hvW⟩ := two_vars w #[.int .u64 (N : Int), vs] #[.int .i64 0, .int .i64 (m : Int)] 120 121
  have hown0 : OwnB W base vb b := by rw [hW]; exact (hown.alloc _).alloc _
  have hN0 : W.heap[w.heap.size]? = some (.cells #[.int .u64 (N : Int), vs] 120 (0, 0)) := by
    rw [hW, Below.heap_alloc _ _ _ (by simp)]; exact heap_alloc_new w _
  go_enter Tryz.func64, Tryz.ntmps64
  go_wp2_with fail
  rw [← hW]
  clear hW hvW
  go_loopw [0, 7] (fun v i wr => ∃ (j : Nat), j ≤ m ∧ i = .int .i64 ((m : Int) - 1 - (j : Int)) ∧ OwnB wr base v (b ++ numBytes N m j) ∧ GrewFrom W wr vb v ∧ wr.heap[w.heap.size]? = some (.cells #[.int .u64 (N : Int), vs] 120 (0, 0)))
    (fun _ i _ => (intOf i + 1).toNat)
  case atStart => exact ⟨0, by omega, by simp, by simpa [numBytes] using hown0, GrewFrom.refl _ _, hN0⟩
  case round =>
    obtain ⟨j, hj, rfl, hownr, hbr, hNr⟩ := hrel
    clear hown hown0 hN0
    by_cases hlt : j < m
    · obtain ⟨p, hp⟩ : ∃ p : Nat, (m : Int) - 1 - (j : Int) = (p : Int) := ⟨m - 1 - j, by omega⟩
      have hpm : p ≤ 7 := by omega
      rw [hp]
      have HP := hide hp
      clear hp
      have hcN : wr.cell? ⟨w.heap.size, 0, none⟩ = some (.int .u64 (N : Int)) := cell_of_row wr _ 0 _ _ (0, 0) hNr
      have hcs := hide (one_byte N p)
      obtain ⟨L, hL⟩ : ∃ L, L = b ++ numBytes N m j := ⟨_, rfl⟩
      have hLl : L.length ≤ 80000 := by rw [hL]; simp [length_numBytes]; omega
      rw [← hL] at hownr
      have HL := hide hL
      clear hL
      go_wp2_with (at_builtin; refine wpList_app_bytes rfl (.tmp 19) (.tmp 26) rfl base u0 L [UInt8.ofNat (N / 2 ^ (8 * p))] (wr.heap.size + 1) 1 (some ⟨wr.heap.size, 0, none⟩) rfl rfl (by exact hownr.alloc _) (by exact Byt.lit wr [UInt8.ofNat (N / 2 ^ (8 * p))] _ _ (0, 0) hcs.out) (fun e => by cases e) (by simp; omega) (by have := hbr.1.size; have := hbW.size; simp; omega) ?_)
      intro v4 w4 hown4 hgr4 hat4
      have hb4 : GrewFrom W w4 vb v4 := hbr.step hgr4 hat4
      have hN4 : w4.heap[w.heap.size]? = some (.cells #[.int .u64 (N : Int), vs] 120 (0, 0)) := by
        have hlt2 : w.heap.size < wr.heap.size := (Array.getElem?_eq_some_iff.1 hNr).1
        refine (hgr4.block _ (by simp; omega) ?_).trans ((Below.heap_alloc wr _ _ hlt2).trans hNr)
        rcases own_ne hownr hNr (by decide) with e | e
        · rw [e]; simp
        · exact fun e2 => e e2.symm
      have hown5 : OwnB w4 base v4 (b ++ numBytes N m (j + 1)) := by
        rw [numBytes_succ, ← List.append_assoc, ← HL.out, show m - 1 - j = p from by have := HP.out; omega]
        exact hown4
      have HO := hide hown5
      clear hown4 hown5 hgr4 hat4 hownr hNr hbr
      go_wp2
      go_roundw
      case rel => exact ⟨j + 1, by omega, by have := HP.out; exact congrArg (Value.int IntKind.i64) (by omega), HO.out, hb4, hN4⟩
      case measure => simp [intOf]
    · obtain rfl : j = m := by omega
      rw [show (j : Int) - 1 - (j : Int) = -1 from by omega]
      clear hlt
      go_wp2
      go_ret
      exact ⟨_, rfl, hownr, grown_trans (Below.row hbW _) hbr.1⟩

/-- the bytes of a piece. -/
def putS (N : Nat) (vb : List UInt8) (kd sz : Int) : List UInt8 := if kd = 0 then numBytes N sz.toNat sz.toNat else if kd = 2 ∨ kd = 3 then zerosL sz.toNat else vb

set_option maxHeartbeats 2000000 in
theorem put_zeros (w : World) (base k : Nat) (N v : Value) (b : List UInt8) (vb : Value) (kd : Int) (hkd : kd = 2 ∨ kd = 3) (hk : k ≤ 65535) (hown : OwnB w base v b) (hbl : b.length ≤ 70000) (hbase : base ≤ w.heap.size) :
    Calls Tryz.prog 64 #[v, .agg #[N, vb], .agg #[.int .i64 kd, .int .i64 (k : Int)]] w fun e w' => ∃ v', e = .returned v' ∧ OwnB w' base v' (b ++ zerosL k) ∧ w.grownBy w' v.ownBlock := by
  obtain ⟨W, hW, hbW, hzW, hvW⟩ := two_vars w #[N, vb] #[.int .i64 kd, .int .i64 (k : Int)] 120 121
  have hown0 : OwnB W base v b := by rw [hW]; exact (hown.alloc _).alloc _
  rcases hkd with rfl | rfl <;>
  · go_enter Tryz.func64, Tryz.ntmps64
    go_wp2_with (at_builtin; refine wpList_app_zeros rfl (.tmp 32) (.tmp 34) rfl base v b k rfl rfl (by exact (hown.alloc _).alloc _) (by omega) (by simp; omega) ?_)
    intro v4 w4 hown4 hgr4 hat4
    rw [← hW] at hgr4
    have hg := grown_trans (Below.row hbW _) hgr4
    clear hgr4 hat4 hvW hW hown0 hown
    go_wp2
    go_ret
    exact ⟨_, rfl, hown4, hg⟩

set_option maxHeartbeats 2000000 in
theorem put_bytes (w : World) (base B c : Nat) (N v : Value) (b vb : List UInt8) (A : Option Addr) (kd sz : Int) (hkd : kd = 1 ∨ kd = 4) (hown : OwnB w base v b) (hbl : b.length + vb.length ≤ 140737488355328) (hbase : base ≤ w.heap.size) (hB : B ≤ w.heap.size) (hby : Byt w B A vb) (hnil : A = none → c = 0) :
    Calls Tryz.prog 64 #[v, .agg #[N, .slice A vb.length c], .agg #[.int .i64 kd, .int .i64 sz]] w fun e w' => ∃ v', e = .returned v' ∧ OwnB w' base v' (b ++ vb) ∧ w.grownBy w' v.ownBlock := by
  obtain ⟨W, hW, hbW, hzW, hvW⟩ := two_vars w #[N, .slice A vb.length c] #[.int .i64 kd, .int .i64 sz] 120 121
  have hbyW : Byt ((w.alloc (.cells #[N, .slice A vb.length c] 120)).alloc (.cells #[.int .i64 kd, .int .i64 sz] 121)) B A vb := by rw [← hW]; exact hby.below (hbW.mono hB)
  rcases hkd with rfl | rfl <;>
  · go_enter Tryz.func64, Tryz.ntmps64
    go_wp2_with (at_builtin; refine wpList_app_bytes rfl (.tmp 36) (.tmp 38) rfl base v b vb B c A rfl rfl (by exact (hown.alloc _).alloc _) (by exact hbyW) hnil (by omega) (by simp; omega) ?_)
    intro v4 w4 hown4 hgr4 hat4
    rw [← hW] at hgr4
    have hg := grown_trans (Below.row hbW _) hgr4
    clear hgr4 hat4 hvW hW hown hbyW hby
    go_wp2
    go_ret
    exact ⟨_, rfl, hown4, hg⟩

/-- what fits its piece is laid behind b. -/
theorem put_any (w : World) (base B N c : Nat) (v : Value) (b vb : List UInt8) (A : Option Addr) (kd sz : Int) (hfit : fitsS N vb.length kd sz = true) (hlen : (b.length : Int) + (if kd = 4 then (vb.length : Int) else sz) ≤ 65535)
    (hown : OwnB w base v b) (hbase : base ≤ w.heap.size) (hB : B ≤ w.heap.size) (hby : Byt w B A vb) (hnil : A = none → c = 0) :
    Calls Tryz.prog 64 #[v, .agg #[.int .u64 (N : Int), .slice A vb.length c], .agg #[.int .i64 kd, .int .i64 sz]] w fun e w' => ∃ v', e = .returned v' ∧ OwnB w' base v' (b ++ putS N vb kd sz) ∧ w.grownBy w' v.ownBlock := by
  unfold fitsS at hfit
  by_cases h0 : kd = 0
  · subst h0
    rw [if_pos rfl] at hfit
    simp at hfit
    obtain ⟨m, rfl⟩ : ∃ m : Nat, sz = (m : Int) := ⟨sz.toNat, by omega⟩
    simp at hlen
    have := put_numg w base N m (.slice A vb.length c) v b (by omega) (by omega) hown (by omega) hbase
    unfold putS
    rw [if_pos rfl, Int.toNat_natCast]
    exact this
  · rw [if_neg h0] at hfit
    by_cases h1 : kd = 1
    · subst h1
      simp at hfit hlen
      unfold putS
      rw [if_neg h0, if_neg (by omega)]
      exact put_bytes w base B c _ v b vb A 1 sz (.inl rfl) hown (by omega) hbase hB hby hnil
    · rw [if_neg h1] at hfit
      by_cases h23 : kd = 2 ∨ kd = 3
      · rw [if_pos h23] at hfit
        simp at hfit
        obtain ⟨m, rfl⟩ : ∃ m : Nat, sz = (m : Int) := ⟨sz.toNat, by omega⟩
        rw [if_neg (by omega)] at hlen
        unfold putS
        rw [if_neg h0, if_pos h23, Int.toNat_natCast]
        exact put_zeros w base m _ v b _ kd h23 (by omega) hown (by omega) hbase
      · rw [if_neg h23] at hfit
        by_cases h4 : kd = 4
        · subst h4
          simp at hfit hlen
          unfold putS
          rw [if_neg h0, if_neg h23]
          exact put_bytes w base B c _ v b vb A 4 sz (.inr rfl) hown (by omega) hbase hB hby hnil
        · rw [if_neg h4] at hfit; exact absurd hfit (by decide)
end Go.Proofs.YtihakjcccbionaaGreatDoor

end
section
/-
  The walk of Lay at whatever values and pieces.
-/
namespace Go.Proofs.YtihakjcccbionaaGreatDoor
open Go.RowKit
set_option maxRecDepth 100000

/-- what is laid behind b, and the error. -/
def layS : List ((Nat × List UInt8) × (Int × Int)) → List UInt8 → List UInt8 × Nat
  | [], b => (b, 0)
  | ((N, vb), (kd, sz)) :: t, b =>
    if fitsS N vb.length kd sz = true then (if (b.length : Int) + (if kd = 4 then (vb.length : Int) else sz) ≤ 65535 then layS t (b ++ putS N vb kd sz) else ([], 3)) else ([], 1)
def layR (vs : List (Nat × List UInt8)) (ops : List (Int × Int)) : List UInt8 × Nat :=
  if 4096 < ops.length then ([], 3) else if vs.length ≠ ops.length then ([], 1) else layS (vs.zip ops) []

/-- each of their slices reads as its bytes; a nil one is empty. -/
def RdC (w : World) (B : Nat) (items : List VItem) : Prop := ∀ it ∈ items, ∃ A c, it.v = .slice A it.b.length c ∧ Byt w B A it.b ∧ (A = none → c = 0)

theorem length_putS {N : Nat} {vb : List UInt8} {kd sz : Int} (h : fitsS N vb.length kd sz = true) : ((putS N vb kd sz).length : Int) = if kd = 4 then (vb.length : Int) else sz := by
  unfold fitsS at h
  unfold putS
  by_cases h0 : kd = 0
  · subst h0
    rw [if_pos rfl] at h ⊢
    simp at h
    rw [if_neg (by decide), length_numBytes]; omega
  · rw [if_neg h0] at h ⊢
    by_cases h1 : kd = 1
    · subst h1
      simp at h
      rw [if_neg (by omega), if_neg (by omega)]; omega
    · rw [if_neg h1] at h
      by_cases h23 : kd = 2 ∨ kd = 3
      · rw [if_pos h23] at h ⊢
        simp at h
        rw [if_neg (by omega), length_zerosL]; omega
      · rw [if_neg h23] at h ⊢
        by_cases h4 : kd = 4
        · rw [if_pos h4]
        · rw [if_neg h4] at h; exact absurd h (by decide)

theorem four_at {W w' : World} {p q r s : Addr} {a b c d : Value} (hb : Below W.heap.size W w') (hp : p.block < W.heap.size) (hq : q.block < W.heap.size) (hr : r.block < W.heap.size) (hs : s.block < W.heap.size)
    (k : W.cell? p = some a ∧ W.cell? q = some b ∧ W.cell? r = some c ∧ W.cell? s = some d) : w'.cell? p = some a ∧ w'.cell? q = some b ∧ w'.cell? r = some c ∧ w'.cell? s = some d :=
  ⟨(hb.cell hp).trans k.1, (hb.cell hq).trans k.2.1, (hb.cell hr).trans k.2.2.1, (hb.cell hs).trans k.2.2.2⟩

set_option maxRecDepth 100000 in
set_option maxHeartbeats 4000000 in
theorem lay_any (w : World) (Av Ao : Option Addr) (cv co : Nat) (items : List VItem) (ops : List (Int × Int)) (hv : RdV w w.heap.size Av items) (hvB : RdC w w.heap.size items) (ho : Ops w w.heap.size Ao ops) (R : List UInt8 × Nat) (hR : R = layR (items.map fun it => (it.N, it.b)) ops) :
    Calls Tryz.prog 30 #[.slice Av items.length cv, .slice Ao ops.length co] w fun e w' => ∃ A c, e = .returned (.tuple #[.slice A R.1.length c, .int .i64 (R.2 : Int)]) ∧ OwnB w' w.heap.size (.slice A R.1.length c) R.1 ∧ Below w.heap.size w w' := by
  unfold layR at hR
  rw [List.length_map] at hR
  by_cases hbig : 4096 < ops.length
  · rw [if_pos hbig] at hR
    subst hR
    have hbi : (4096 : Int) < (ops.length : Int) := by omega
    go_enter Tryz.func30, Tryz.ntmps30
    go_wp2
    go_ret2
    exact ⟨none, 0, rfl, OwnB.nil _ _, Below.refl _ _⟩
  · rw [if_neg hbig] at hR
    have hbi : ¬ (4096 : Int) < (ops.length : Int) := by omega
    by_cases hne : items.length ≠ ops.length
    · rw [if_pos hne] at hR
      subst hR
      have hni : ((items.length : Int) != (ops.length : Int)) = true := by simp; omega
      clear hne hbig
      go_enter Tryz.func30, Tryz.ntmps30
      go_wp2
      go_ret2
      exact ⟨none, 0, rfl, OwnB.nil _ _, Below.refl _ _⟩
    · rw [if_neg hne] at hR
      have hnm : items.length = ops.length := by omega
      have hni : ((items.length : Int) != (ops.length : Int)) = false := by simp; omega
      obtain ⟨zs, hzs⟩ : ∃ zs, zs = (items.map fun it => (it.N, it.b)).zip ops := ⟨_, rfl⟩
      rw [← hzs] at hR
      have HR := hide hR
      have HNM := hide hnm
      have HZS := hide hzs
      clear hR hnm hzs hne hbig
      go_enter Tryz.func30, Tryz.ntmps30
      go_wp2
      go_loopw [6, 7, 8, 19] (fun v _ _ i wr => ∃ (j : Nat) (b : List UInt8), j ≤ ops.length ∧ i = .int .i64 (j : Int) ∧ OwnB wr w.heap.size v b ∧ Below w.heap.size w wr ∧ b.length ≤ 65535 ∧ Hid (R = layS (zs.drop j) b))
        (fun _ _ _ i _ => ops.length - (intOf i).toNat)
      case atStart => exact ⟨0, [], by omega, rfl, OwnB.nil _ _, Below.refl _ _, by simp, hide HR.out⟩
      case round =>
        obtain ⟨j, b, hj, rfl, hown, hb, hbl, hlay⟩ := hrel
        obtain ⟨Ab, cb, rfl, _, _, _, _⟩ := hown.shape
        by_cases hlt : j < ops.length
        · have hltv : j < items.length := by have := HNM.out; omega
          obtain ⟨bv, ov, rfl, hbv, hcv⟩ := hv (by omega)
          obtain ⟨bo, oo, rfl, hbo, hco⟩ := ho (by omega)
          obtain ⟨hv0, hv1⟩ := hcv j hltv
          obtain ⟨ho0, ho1⟩ := hco j hlt
          obtain ⟨Ai, ci, hvi, hby, hnil⟩ := hvB items[j] (List.getElem_mem hltv)
          rw [hvi] at hv1
          obtain ⟨N, hN⟩ : ∃ N, N = items[j].N := ⟨_, rfl⟩
          obtain ⟨vb, hvb⟩ : ∃ vb, vb = items[j].b := ⟨_, rfl⟩
          obtain ⟨kd, hkd⟩ : ∃ kd, kd = ops[j].1 := ⟨_, rfl⟩
          obtain ⟨sz, hsz⟩ : ∃ sz, sz = ops[j].2 := ⟨_, rfl⟩
          have hdrop : zs.drop j = ((N, vb), (kd, sz)) :: zs.drop (j + 1) := by
            have hjz : j < zs.length := by rw [HZS.out]; simp; omega
            rw [List.drop_eq_getElem_cons hjz]
            congr 1
            simp [HZS.out, hN, hvb, hkd, hsz]
          rw [← hN] at hv0
          rw [← hvb] at hv1 hby
          rw [← hkd] at ho0
          rw [← hsz] at ho1
          have hlay' := hlay.out
          rw [hdrop, layS] at hlay'
          clear hlay hdrop hN hvb hkd hsz hvi hcv hco
          have hne : ∀ k, (Value.slice Ab b.length cb).ownBlock = some k → w.heap.size ≤ k ∧ k < wr.heap.size := fun k hk => World.ownsRow.lt hown k hk
          have HNE := hide hne
          clear hne
          have HBY := hide hby
          have HNIL := hide hnil
          have v0 : wr.cell? ⟨bv, ov + j * 2, none⟩ = some (.int .u64 (N : Int)) := (hb.cell (by exact hbv)).trans hv0
          have v1 : wr.cell? ⟨bv, ov + j * 2 + 1, none⟩ = some (.slice Ai vb.length ci) := (hb.cell (by exact hbv)).trans hv1
          have o0 : wr.cell? ⟨bo, oo + j * 2, none⟩ = some (.int .i64 kd) := (hb.cell (by exact hbo)).trans ho0
          have o1 : wr.cell? ⟨bo, oo + j * 2 + 1, none⟩ = some (.int .i64 sz) := (hb.cell (by exact hbo)).trans ho1
          have hO := two_cells wr (.int .i64 kd) (.int .i64 sz) 121
          have hbW : Below wr.heap.size wr (wr.alloc (.cells #[.int .i64 kd, .int .i64 sz] 121)) := (Below.refl _ _).alloc (Nat.le_refl _) _
          have hzW : (wr.alloc (.cells #[.int .i64 kd, .int .i64 sz] 121)).heap.size = wr.heap.size + 1 := by simp
          have hownW : OwnB (wr.alloc (.cells #[.int .i64 kd, .int .i64 sz] 121)) w.heap.size (.slice Ab b.length cb) b := hown.alloc _
          have hszw := hb.size
          have hj0 : (0 : Int) ≤ (j : Int) := by omega
          have hj1 : (j : Int) < (ops.length : Int) := by omega
          have hj2 : (j : Int) < (items.length : Int) := by omega
          have hwr : IntKind.i64.wrap (65535 - (b.length : Int)) = 65535 - (b.length : Int) := wrap_in _ (by omega) (by omega)
          have HLAY := hide hlay'
          clear hv0 hv1 ho0 ho1 hby hnil hlay' hown
          go_wp2
          obtain ⟨W, hW⟩ : ∃ W, W = wr.alloc (.cells #[.int .i64 kd, .int .i64 sz] 121) := ⟨_, rfl⟩
          rw [← hW] at hO hbW hzW hownW ⊢
          have hbvW : bv < W.heap.size := by omega
          have hOW : wr.heap.size < W.heap.size := by omega
          have k0 := (hbW.cell (p := ⟨bv, ov + j * 2, none⟩) (by show bv < _; omega)).trans v0
          have k1 := (hbW.cell (p := ⟨bv, ov + j * 2 + 1, none⟩) (by show bv < _; omega)).trans v1
          obtain ⟨k2, k3⟩ := hO
          have HK := hide (And.intro k0 (And.intro k1 (And.intro k2 k3)))
          have HBW := hide (hb.trans (hbW.mono hszw))
          have HOWN := hide hownW
          clear hW v0 v1 o0 o1 hb hbW hzW hownW
          have hKeep : ∀ w' : World, Below W.heap.size W w' → w'.cell? ⟨bv, ov + j * 2, none⟩ = some (.int .u64 (N : Int)) ∧ w'.cell? ⟨bv, ov + j * 2 + 1, none⟩ = some (.slice Ai vb.length ci) ∧ w'.cell? ⟨wr.heap.size, 0, none⟩ = some (.int .i64 kd) ∧ w'.cell? ⟨wr.heap.size, 1, none⟩ = some (.int .i64 sz) := fun w' h =>
            four_at h (by exact hbvW) (by exact hbvW) (by exact hOW) (by exact hOW) HK.out
          have HKEEP := hide hKeep
          clear hKeep
          by_cases hfit : fitsS N vb.length kd sz = true
          · have hF := fun w' => fits_any w' N vb.length ci Ai kd sz
            rw [hfit] at hF
            have HF := hide hF
            have hlay2 := HLAY.out
            rw [if_pos hfit] at hlay2
            have HL2 := hide hlay2
            have HFIT := hide hfit
            clear hF hlay2 HLAY hfit
            go_region_held3 (fun w' => w'.cell? ⟨bv, ov + j * 2, none⟩ = some (.int .u64 (N : Int)) ∧ w'.cell? ⟨bv, ov + j * 2 + 1, none⟩ = some (.slice Ai vb.length ci) ∧ w'.cell? ⟨wr.heap.size, 0, none⟩ = some (.int .i64 kd) ∧ w'.cell? ⟨wr.heap.size, 1, none⟩ = some (.int .i64 sz))
              (first | go_keep)
              (first | (go_at_call 62; refine (HF.out _).mono ?_; rintro e w3 ⟨rfl, hb3⟩; have HB3 : Hid (Below W.heap.size W w3) := hide (below_undrew hb3); obtain ⟨p0, p1, p2, p3⟩ := HKEEP.out w3 HB3.out))
            clear k0 k1 k2 k3
            go_wp2
            obtain ⟨L, hL⟩ : ∃ L : Int, L = (if kd = 4 then (vb.length : Int) else sz) := ⟨_, rfl⟩
            have hG := fun w' => length_any w' N vb.length ci Ai kd sz
            have hlay3 := HL2.out
            rw [← hL] at hG hlay3
            have HG := hide hG
            have HLL := hide hL
            clear hL hG HL2
            have hLreg : ∀ w4 : World, Below W.heap.size W w4 → OwnB w4 w.heap.size (.slice Ab b.length cb) b ∧ Byt w4 w.heap.size Ai vb ∧ Below w.heap.size w w4 ∧ W.heap.size ≤ w4.heap.size := fun w4 h4 =>
              ⟨HOWN.out.kept (Below.row h4 none) (Classical.em _), HBY.out.below (HBW.out.trans (h4.mono HBW.out.size)), HBW.out.trans (h4.mono HBW.out.size), h4.size⟩
            have HREG := hide hLreg
            clear hLreg
            by_cases hfl : (b.length : Int) + L ≤ 65535
            · rw [if_pos hfl] at hlay3
              have HL3 := hide hlay3
              have hgt : L ≤ 65535 - (b.length : Int) := by omega
              clear hlay3
              go_region_held3 (fun w' => w'.cell? ⟨bv, ov + j * 2, none⟩ = some (.int .u64 (N : Int)) ∧ w'.cell? ⟨bv, ov + j * 2 + 1, none⟩ = some (.slice Ai vb.length ci) ∧ w'.cell? ⟨wr.heap.size, 0, none⟩ = some (.int .i64 kd) ∧ w'.cell? ⟨wr.heap.size, 1, none⟩ = some (.int .i64 sz))
                (first | go_keep)
                (first | (go_at_call 63; refine (HG.out _).mono ?_; rintro e w4 ⟨rfl, hb4⟩; have HB4 : Hid (Below W.heap.size W w4) := hide (HB3.out.trans ((show Below w3.heap.size w3 w4 from below_undrew hb4).mono HB3.out.size)); obtain ⟨q0, q1, q2, q3⟩ := HKEEP.out w4 HB4.out))
              clear p0 p1 p2 p3
              go_wp2
              obtain ⟨o4, y4, b4, s4⟩ := HREG.out w4 HB4.out
              have hlenF : (b.length : Int) + (if kd = 4 then (vb.length : Int) else sz) ≤ 65535 := by rw [← HLL.out]; exact hfl
              have HLENF := hide hlenF
              have hput := fun (x : World) (h1 : OwnB x w.heap.size (.slice Ab b.length cb) b) (h2 : w.heap.size ≤ x.heap.size) (h3 : Byt x w.heap.size Ai vb) => put_any x w.heap.size w.heap.size N ci (.slice Ab b.length cb) b vb Ai kd sz HFIT.out HLENF.out h1 h2 h2 h3 HNIL.out
              have HPUT := hide hput
              have hp5 : ∀ w5 : World, w4.grownBy w5 (Value.slice Ab b.length cb).ownBlock → w5.cell? ⟨bv, ov + j * 2, none⟩ = some (.int .u64 (N : Int)) ∧ w5.cell? ⟨bv, ov + j * 2 + 1, none⟩ = some (.slice Ai vb.length ci) ∧ w5.cell? ⟨wr.heap.size, 0, none⟩ = some (.int .i64 kd) ∧ w5.cell? ⟨wr.heap.size, 1, none⟩ = some (.int .i64 sz) := fun w5 hg => by
                have n1 : (Value.slice Ab b.length cb).ownBlock ≠ some bv := fun e => by have := (HNE.out bv e).1; omega
                have n2 : (Value.slice Ab b.length cb).ownBlock ≠ some wr.heap.size := fun e => by have := (HNE.out _ e).2; omega
                exact ⟨(hg.cell_far _ (by show bv < _; omega) (Ne.symm n1)).trans q0, (hg.cell_far _ (by show bv < _; omega) (Ne.symm n1)).trans q1, (hg.cell_far _ (by show wr.heap.size < _; omega) (Ne.symm n2)).trans q2, (hg.cell_far _ (by show wr.heap.size < _; omega) (Ne.symm n2)).trans q3⟩
              have HP5 := hide hp5
              have HO4 := hide o4
              have HY4 := hide y4
              have HB4w := hide b4
              clear hlenF hput hp5 o4 y4 b4
              go_region_held3 (fun w' => w'.cell? ⟨bv, ov + j * 2, none⟩ = some (.int .u64 (N : Int)) ∧ w'.cell? ⟨bv, ov + j * 2 + 1, none⟩ = some (.slice Ai vb.length ci) ∧ w'.cell? ⟨wr.heap.size, 0, none⟩ = some (.int .i64 kd) ∧ w'.cell? ⟨wr.heap.size, 1, none⟩ = some (.int .i64 sz))
                (first | go_keep)
                (first | (go_at_call 64; refine (HPUT.out _ (by exact HO4.out) (by have := HB4w.out.size; simp; omega) (by exact HY4.out)).mono ?_; rintro e w5 ⟨v5, rfl, hown5, hg5⟩; have HG5 : Hid (w4.grownBy w5 (Value.slice Ab b.length cb).ownBlock) := hide ⟨hg5.os, hg5.tape, hg5.output, hg5.size, hg5.block⟩; obtain ⟨r0, r1, r2, r3⟩ := HP5.out w5 HG5.out))
              have hb5 : Below w.heap.size w w5 := HB4w.out.grown HG5.out HB4w.out.size (fun k hk => (HNE.out k hk).1)
              have hl5 : (b ++ putS N vb kd sz).length ≤ 65535 := by
                have h1 := length_putS HFIT.out
                rw [List.length_append]
                have h2 := HLENF.out
                omega
              have HB5 := hide hb5
              have HL5 := hide hl5
              have HO5 := hide hown5
              clear q0 q1 q2 q3 r0 r1 r2 r3 hg5 hb5 hl5 hown5
              go_wp2
              go_roundw
              case rel => exact ⟨j + 1, b ++ putS N vb kd sz, by omega, by go_num, HO5.out, HB5.out, HL5.out, hide HL3.out⟩
              case measure => simp [intOf]; omega
            · rw [if_neg hfl] at hlay3
              have HL3 := hide hlay3
              have hgt : 65535 - (b.length : Int) < L := by omega
              clear hlay3
              go_region_held3 (fun w' => w'.cell? ⟨bv, ov + j * 2, none⟩ = some (.int .u64 (N : Int)) ∧ w'.cell? ⟨bv, ov + j * 2 + 1, none⟩ = some (.slice Ai vb.length ci) ∧ w'.cell? ⟨wr.heap.size, 0, none⟩ = some (.int .i64 kd) ∧ w'.cell? ⟨wr.heap.size, 1, none⟩ = some (.int .i64 sz))
                (first | go_keep)
                (first | (go_at_call 63; refine (HG.out _).mono ?_; rintro e w4 ⟨rfl, hb4⟩; have HB4 : Hid (Below W.heap.size W w4) := hide (HB3.out.trans ((show Below w3.heap.size w3 w4 from below_undrew hb4).mono HB3.out.size)); obtain ⟨q0, q1, q2, q3⟩ := HKEEP.out w4 HB4.out))
              clear p0 p1 p2 p3
              go_wp2
              go_ret2
              have hbe := HBW.out.trans (HB4.out.mono HBW.out.size)
              have he := HL3.out
              subst he
              exact ⟨none, 0, rfl, OwnB.nil _ _, hbe⟩
          · have hF := fun w' => fits_any w' N vb.length ci Ai kd sz
            rw [Bool.eq_false_iff.2 hfit] at hF
            have HF := hide hF
            have hlay2 := HLAY.out
            rw [if_neg hfit] at hlay2
            have HL2 := hide hlay2
            clear hF hlay2 HLAY hfit
            go_region_held3 (fun w' => w'.cell? ⟨bv, ov + j * 2, none⟩ = some (.int .u64 (N : Int)) ∧ w'.cell? ⟨bv, ov + j * 2 + 1, none⟩ = some (.slice Ai vb.length ci) ∧ w'.cell? ⟨wr.heap.size, 0, none⟩ = some (.int .i64 kd) ∧ w'.cell? ⟨wr.heap.size, 1, none⟩ = some (.int .i64 sz))
              (first | go_keep)
              (first | (go_at_call 62; refine (HF.out _).mono ?_; rintro e w3 ⟨rfl, hb3⟩; have HB3 : Hid (Below W.heap.size W w3) := hide (below_undrew hb3); obtain ⟨p0, p1, p2, p3⟩ := HKEEP.out w3 HB3.out))
            clear k0 k1 k2 k3
            go_wp2
            go_ret2
            have hbe := HBW.out.trans (HB3.out.mono HBW.out.size)
            have he := HL2.out
            subst he
            exact ⟨none, 0, rfl, OwnB.nil _ _, hbe⟩
        · obtain rfl : j = ops.length := by omega
          have he : R = (b, 0) := by
            have h := hlay.out
            rw [List.drop_eq_nil_of_le (by rw [HZS.out]; simp; omega), layS] at h
            exact h
          clear hlay hlt
          go_wp2
          go_ret2
          subst he
          exact ⟨Ab, cb, rfl, hown, hb⟩
end Go.Proofs.YtihakjcccbionaaGreatDoor

end
