import Derived.Test.YtihakjcccbionaaGreatDoorBase
import Derived.Deep.MidRow
import Derived.Deep.RegionHeld3
import Derived.Laws.CopyOwn
import Derived.Test.YtihakjcccbionaaGreatDoorAdm
import Derived.Lib.Bytealg
import Derived.Stop.BytesEq
import Derived.WalkSmall
import Derived.Lib.BytesEntry
import Derived.Deep.WholeRow
import Derived.Test.YtihakjcccbionaaGreatDoorLent
section
/-
  Loads, stores and builds of whole structs and arrays in one step of the walk, in whatever region. Nothing here speaks of one type.
-/
namespace Go.Proofs.YtihakjcccbionaaGreatDoor
open Go.RowKit

/-- how many cells a struct or an array has. -/
def rowSize (P : Program) (t : TypeId) : Option Nat :=
  match P.underlying t with
  | some (.struct _) | some (.array _ _) => (P.info? t).map (·.size)
  | _ => none
/-- as many cells of a block from one on, if they are there. -/
def spanC (n : Option Nat) (ob : Option Obj) (o : Nat) : Option (Array Value) :=
  match n, ob with
  | some n, some (.cells cs _ _) => if o + n ≤ cs.size then some (cs.extract o (o + n)) else none
  | _, _ => none
def spanQ (P : Program) (t : TypeId) (w : World) (v : Value) : Option (Array Value) :=
  match v with
  | .pointer (some ⟨b, o, none⟩) => spanC (rowSize P t) (w.heap[b]?) o
  | _ => none

theorem spanQ_ptr (P : Program) (t : TypeId) (w : World) (b o : Nat) : spanQ P t w (.pointer (some ⟨b, o, none⟩)) = spanC (rowSize P t) (w.heap[b]?) o := rfl
theorem spanC_some (n o : Nat) (cs : Array Value) (t : TypeId) (fr : Nat × Nat) : spanC (some n) (some (.cells cs t fr)) o = if o + n ≤ cs.size then some (cs.extract o (o + n)) else none := rfl
theorem heap_of_drew (w : World) : w.drew.heap = w.heap := rfl
theorem heap_of_drewN (w : World) (n : Nat) : (w.drewN n).heap = w.heap := rfl

theorem run_span {P : Program} {t : TypeId} {w : World} {v : Value} {cs : Array Value} (h : spanQ P t w v = some cs) : (Instr.loadAt t v).run P w = .ok (.agg cs) w := by
  unfold spanQ at h
  split at h
  · next b o =>
    unfold spanC at h
    split at h
    · next n X ty fr hn hX =>
      split at h
      · next hle =>
        injection h with h
        subst h
        have hn' := hn
        unfold rowSize at hn
        split at hn
        · next fs hu =>
          have := run_loadAt_mid (P := P) w b o t (X.extract o (o + n)).toList _ (World.rangeAt_of_block hX o n) hu rfl (by rw [hn]; simp; omega)
          rw [Array.toArray_toList] at this
          exact this
        · next k e hu =>
          have := run_loadAt_mid (P := P) w b o t (X.extract o (o + n)).toList _ (World.rangeAt_of_block hX o n) hu rfl (by rw [hn]; simp; omega)
          rw [Array.toArray_toList] at this
          exact this
        · cases hn
      · cases h
    · cases h
  · cases h

/-- the operation, as the walk's simp meets it first. -/
theorem exec_span {P : Program} {ρ : Operand → Value} {dst : Option Tmp} {t ty : TypeId} {x : Operand} {pos : String} {after : Array Edge} {g : Option (Nat × Bool)} {w : World} (h : (spanQ P t w (ρ x)).isSome = true) :
    (execOp ρ ⟨dst, .load t x, ty, pos, after, g⟩).run P w = .ok (.value (.agg ((spanQ P t w (ρ x)).getD #[]))) w := by
  obtain ⟨cs, hcs⟩ := Option.isSome_iff_exists.1 h
  have := run_span hcs
  unfold execOp
  simp only [Sem.run_bind, this, Result.andThen_ok, Sem.run_pure, hcs, Option.getD_some]

/-! stores of whole rows, and structs that are built, likewise -/
def putOk (P : Program) (t : TypeId) (w : World) (p v : Value) : Bool :=
  match p, v with
  | .pointer (some ⟨b, 0, none⟩), .agg cs =>
    (match w.heap[b]? with
    | some (.cells old _ (0, 0)) => old.size == cs.size
    | _ => false) && (rowSize P t == some cs.size) && cs.all (·.oneCell')
  | _, _ => false
def putAt (w : World) (p v : Value) : World :=
  match p, v with
  | .pointer (some ⟨b, _, _⟩), .agg cs => w.setRow b cs
  | _, _ => w
theorem exec_put {P : Program} {ρ : Operand → Value} {dst : Option Tmp} {t ty : TypeId} {x y : Operand} {pos : String} {after : Array Edge} {g : Option (Nat × Bool)} {w : World} (h : putOk P t w (ρ x) (ρ y) = true) :
    (execOp ρ ⟨dst, .store t x y, ty, pos, after, g⟩).run P w = .ok .skip (putAt w (ρ x) (ρ y)) := by
  unfold putOk at h
  split at h
  · next b cs hp hv =>
    simp only [Bool.and_eq_true] at h
    obtain ⟨⟨h1, h2⟩, h3⟩ := h
    split at h1
    · next old t' hg =>
      have hi : (P.info? t).map (·.size) = some cs.size := by
        have := beq_iff_eq.1 h2
        unfold rowSize at this
        split at this
        · exact this
        · exact this
        · cases this
      unfold execOp
      simp only [Instr.storeAt, Instr.sureAddr, Sem.run_bind, Sem.run_pure, Result.andThen_ok, hp, hv, run_storeVar_row w b t' t old cs hg hi (beq_iff_eq.1 h1) h3]
      rfl
    · cases h1
  · cases h
theorem putAt_ptr (w : World) (b o : Nat) (sp : Option Nat) (cs : Array Value) : putAt w (.pointer (some ⟨b, o, sp⟩)) (.agg cs) = w.setRow b cs := rfl
def oldOk (n : Nat) : Option Obj → Bool
  | some (.cells old _ (0, 0)) => old.size == n
  | _ => false
def allOne (cs : Array Value) : Bool := cs.all (·.oneCell')
theorem putOk_ptr (P : Program) (t : TypeId) (w : World) (b : Nat) (cs : Array Value) : putOk P t w (.pointer (some ⟨b, 0, none⟩)) (.agg cs) = (oldOk cs.size (w.heap[b]?) && (rowSize P t == some cs.size) && allOne cs) := rfl
theorem oldOk_some (n : Nat) (old : Array Value) (t : TypeId) : oldOk n (some (.cells old t (0, 0))) = (old.size == n) := rfl
theorem exec_build {P : Program} {ρ : Operand → Value} {dst : Option Tmp} {t ty : TypeId} {parts : Array (Nat × Operand)} {pos : String} {after : Array Edge} {g : Option (Nat × Bool)} {w : World} (h : (P.built t (parts.map fun (i, x) => (i, ρ x)).toList).isSome = true) :
    (execOp ρ ⟨dst, .build t parts, ty, pos, after, g⟩).run P w = .ok (.value (.agg ((P.built t (parts.map fun (i, x) => (i, ρ x)).toList).getD #[]))) w := by
  obtain ⟨cs, hcs⟩ := Option.isSome_iff_exists.1 h
  have := run_build w t _ cs hcs
  unfold execOp
  simp only [Sem.run_bind, this, Result.andThen_ok, Sem.run_pure, hcs, Option.getD_some]

/-- one number is less than another one, said so that nothing looks into it. -/
def LtN (a b : Nat) : Prop := a < b
theorem heap_old {w : World} {i : Nat} (o : Obj) (h : LtN i w.heap.size) : (w.alloc o).heap[i]? = w.heap[i]? := heap_alloc_old w o h

theorem results_cell_tmp {P : Program} {fn : Func} {p q : Tmp} {ty : TypeId} (h : fn.results = #[.cell p ty, .tmp q]) (tmps : Array Value) (w : World) (g : Nat) (t : TypeId) (cs : Array Value) (fr : Nat × Nat) (d : TypeDesc)
    (hp : tmps.getD p undef = .pointer (some ⟨g, 0, none⟩)) (hg : w.heap[g]? = some (.cells cs t fr))
    (hu : P.underlying ty = some d) (hd : (match d with | .struct _ | .array _ _ => true | _ => false) = true) (hi : (P.info? ty).map (·.size) = some cs.size) :
    (results fn tmps).run P w = .ok (.tuple #[.agg cs, tmps.getD q undef]) w := by
  have hp' : tmps[p]?.getD undef = .pointer (some ⟨g, 0, none⟩) := by simpa using hp
  simp [results, h, hp', asAddr, run_loadVar_row w g t ty cs fr d hg hu hd hi]

theorem below_undrew' {B : Nat} {w w' : World} (h : Below B w.drew w') : Below B w w' := ⟨h.os, h.tape, h.output, h.size, h.block⟩
end Go.Proofs.YtihakjcccbionaaGreatDoor

end
section
/-
  Words for addresses: the cells of one, a block that holds some cells, stores of whole rows.
-/
namespace Go.Proofs.YtihakjcccbionaaGreatDoor
open Go.RowKit


/-- a whole row is stored: the new world is a letter. -/
theorem wpList_store_let {P : Program} {ops : Array Oper} {rest : List Oper} {o : Oper} {a : Act} {w : World} {Q : Exit → Act → World → Prop} (hgd : o.guard = none) (ty : TypeId) (x y : Operand) (ho : o.op = .store ty x y)
    (g : Nat) (cells : Array Value) (hx : a.eval x = .pointer (some ⟨g, 0, none⟩)) (hy : a.eval y = .agg cells)
    (t : TypeId) (old : Array Value) (hg : w.heap[g]? = some (.cells old t (0, 0))) (hi : (P.info? ty).map (·.size) = some cells.size)
    (hold : old.size = cells.size) (h1 : cells.all (·.oneCell') = true)
    (h : ∀ w', w'.heap[g]? = some (.cells cells t (0, 0)) → (∀ k, k ≠ g → w'.heap[k]? = w.heap[k]?) → w'.heap.size = w.heap.size → Below g w w' → wpList P ops Q rest (a.put o.dst undef) w') : wpList P ops Q (o :: rest) a w :=
  wpList_store_row hgd ty x y ho g cells hx hy t old hg hi hold h1 (h _ (setRow_heap w g _ _ t _ hg) (fun k hk => setRow_other w g k _ hk) (by simp [World.setRow]) (below_setRow (Below.refl _ _) (Nat.le_refl _) _))

/-- a part of a block is loaded whole, in an operation that a guard lets by. -/
theorem wpList_load_w {P : Program} {ops : Array Oper} {rest : List Oper} {op : Oper} {a : Act} {w : World} {Q : Exit → Act → World → Prop} (hw : Region.wanted op (yielded ops a.tmps) = true) (ty : TypeId) (x : Operand) (ho : op.op = .load ty x)
    (b o : Nat) (hx : a.eval x = .pointer (some ⟨b, o, none⟩)) (cs : List Value) (d : TypeDesc) (hc : w.rangeAt b o cs)
    (hu : P.underlying ty = some d) (hd : d.isRow = true) (hi : (P.info? ty).map (·.size) = some cs.length)
    (h : wpList P ops Q rest (a.put op.dst (.agg cs.toArray)) w) : wpList P ops Q (op :: rest) a w :=
  wpList_step fun K hK => by rw [if_pos hw]; exact wp_load_mid ty x ho b o hx cs d hc hu hd hi (hK _ _ h)
theorem wpList_row_w {P : Program} {ops : Array Oper} {rest : List Oper} {op : Oper} {a : Act} {w : World} {Q : Exit → Act → World → Prop} (hw : Region.wanted op (yielded ops a.tmps) = true) (ty : TypeId) (x : Operand) (ho : op.op = .load ty x)
    (b : Nat) (hx : a.eval x = .pointer (some ⟨b, 0, none⟩)) (t : TypeId) (cs : Array Value) (fr : Nat × Nat) (d : TypeDesc) (hg : w.heap[b]? = some (.cells cs t fr))
    (hu : P.underlying ty = some d) (hd : (match d with | .struct _ | .array _ _ => true | _ => false) = true) (hi : (P.info? ty).map (·.size) = some cs.size)
    (h : wpList P ops Q rest (a.put op.dst (.agg cs)) w) : wpList P ops Q (op :: rest) a w :=
  wpList_step fun K hK => by rw [if_pos hw]; exact wp_load_row ty x ho b hx t cs fr d hg hu hd hi (hK _ _ h)
/-- the same as one step of a region that draws its order. -/
theorem step_load_w {P : Program} {ops : Array Oper} {op : Oper} {a : Act} {w : World} {K : Act → World → Prop} {Q : Exit → Act → World → Prop} {E : Prop} (hw : Region.wanted op (yielded ops a.tmps) = true) (ty : TypeId) (x : Operand) (ho : op.op = .load ty x)
    (b o : Nat) (hx : a.eval x = .pointer (some ⟨b, o, none⟩)) (cs : List Value) (d : TypeDesc) (hc : w.rangeAt b o cs)
    (hu : P.underlying ty = some d) (hd : d.isRow = true) (hi : (P.info? ty).map (·.size) = some cs.length)
    (h : K (a.put op.dst (.agg cs.toArray)) w) : if Region.wanted op (yielded ops a.tmps) = true then Oper.wp P op a w K Q else E := by
  rw [if_pos hw]; exact wp_load_mid ty x ho b o hx cs d hc hu hd hi h
theorem step_row_w {P : Program} {ops : Array Oper} {op : Oper} {a : Act} {w : World} {K : Act → World → Prop} {Q : Exit → Act → World → Prop} {E : Prop} (hw : Region.wanted op (yielded ops a.tmps) = true) (ty : TypeId) (x : Operand) (ho : op.op = .load ty x)
    (b : Nat) (hx : a.eval x = .pointer (some ⟨b, 0, none⟩)) (t : TypeId) (cs : Array Value) (fr : Nat × Nat) (d : TypeDesc) (hg : w.heap[b]? = some (.cells cs t fr))
    (hu : P.underlying ty = some d) (hd : (match d with | .struct _ | .array _ _ => true | _ => false) = true) (hi : (P.info? ty).map (·.size) = some cs.size)
    (h : K (a.put op.dst (.agg cs)) w) : if Region.wanted op (yielded ops a.tmps) = true then Oper.wp P op a w K Q else E := by
  rw [if_pos hw]; exact wp_load_row ty x ho b hx t cs fr d hg hu hd hi h

/-- the cells of an address: its kind, its sixteen bytes. -/
def adL (v : Bool) (l : List UInt8) : List Value := .bool v :: l.map byteV
structure AdV (X : Array Value) (v : Bool) (l : List UInt8) : Prop where
  eq : X = (adL v l).toArray
  len : l.length = 16
  c0 : X[0]? = some (.bool v)
theorem AdV.mk' {v : Bool} {l : List UInt8} (h : l.length = 16) : AdV (adL v l).toArray v l := ⟨rfl, h, rfl⟩
theorem AdV.size {X : Array Value} {v : Bool} {l : List UInt8} (h : AdV X v l) : X.size = 17 := by rw [h.eq]; simp [adL, h.len]
theorem AdV.one {X : Array Value} {v : Bool} {l : List UInt8} (h : AdV X v l) : X.all (·.oneCell') = true := by
  rw [h.eq]
  refine all_oneCell_toArray fun u hu => ?_
  rcases List.mem_cons.1 hu with rfl | hu
  · rfl
  · exact byteV_one l u hu
theorem AdV.at {X : Array Value} {v : Bool} {l : List UInt8} (h : AdV X v l) (j : Nat) (hj : j < l.length) : X[1 + j]? = some (.int .u8 (l[j].toNat : Int)) := by
  rw [h.eq, Nat.add_comm]
  simp [adL, byteV, hj]
theorem AdV.arr {X : Array Value} {v : Bool} {l : List UInt8} (h : AdV X v l) {w : World} {g : Nat} {t : TypeId} (hg : w.heap[g]? = some (.cells X t (0, 0))) : w.rangeAt g 1 (l.map byteV) := fun j u hj => by
  obtain ⟨hjl, hju⟩ := List.getElem?_eq_some_iff.1 hj
  have hjl' : j < l.length := by simpa using hjl
  rw [cell_of_row w g (1 + j) X t (0, 0) hg, h.at j hjl', ← hju]
  simp [byteV]
theorem AdV.kind {X : Array Value} {v : Bool} {l : List UInt8} (h : AdV X v l) {w : World} {g : Nat} {t : TypeId} (hg : w.heap[g]? = some (.cells X t (0, 0))) : w.cell? ⟨g, 0, none⟩ = some (.bool v) := by
  rw [cell_of_row w g 0 X t (0, 0) hg]; exact h.c0
theorem arr_size {l : List UInt8} (h : l.length = 16) : (l.map byteV).toArray.size = 16 := by simp [h]
theorem arr_one (l : List UInt8) : (l.map byteV).toArray.all (·.oneCell') = true := all_oneCell_toArray (byteV_one l)
theorem info_arr : (Tryz.prog.info? 22).map (·.size) = some 16 := by kernel_rfl
theorem info_ad : (Tryz.prog.info? 24).map (·.size) = some 17 := by kernel_rfl

theorem one_block (w : World) (a : Obj) : ∃ W, w.alloc a = W ∧ W.heap[w.heap.size]? = some a ∧ W.heap.size = w.heap.size + 1 ∧ Below w.heap.size w W :=
  ⟨_, rfl, heap_alloc_new w a, by simp, (Below.refl _ _).alloc (Nat.le_refl _) _⟩
theorem two_blocks (w : World) (a b : Obj) : ∃ W, (w.alloc a).alloc b = W ∧ W.heap[w.heap.size]? = some a ∧ W.heap[w.heap.size + 1]? = some b ∧ W.heap.size = w.heap.size + 2 ∧ Below w.heap.size w W :=
  ⟨_, rfl, heap_alloc2_old w a b, heap_alloc2_new w a b, by simp, ((Below.refl _ _).alloc (Nat.le_refl _) _).alloc (by simp) _⟩
theorem three_blocks (w : World) (a b c : Obj) : ∃ W, ((w.alloc a).alloc b).alloc c = W ∧ W.heap[w.heap.size]? = some a ∧ W.heap[w.heap.size + 1]? = some b ∧ W.heap[w.heap.size + 1 + 1]? = some c ∧ W.heap.size = w.heap.size + 3 ∧ Below w.heap.size w W :=
  ⟨_, rfl, by rw [heap_alloc_old _ _ (by simp; omega), heap_alloc2_old], by rw [heap_alloc_old _ _ (by simp), heap_alloc2_new], by have := heap_alloc_new ((w.alloc a).alloc b) c; simpa using this, by simp, (((Below.refl _ _).alloc (Nat.le_refl _) _).alloc (by simp) _).alloc (by simp; omega) _⟩

def zer16 : List Value := List.replicate 16 (.int .u8 0)
theorem zer16_ok : zer16.toArray = #[Value.int IntKind.u8 0, Value.int IntKind.u8 0, Value.int IntKind.u8 0, Value.int IntKind.u8 0, Value.int IntKind.u8 0, Value.int IntKind.u8 0, Value.int IntKind.u8 0, Value.int IntKind.u8 0, Value.int IntKind.u8 0, Value.int IntKind.u8 0, Value.int IntKind.u8 0, Value.int IntKind.u8 0, Value.int IntKind.u8 0, Value.int IntKind.u8 0, Value.int IntKind.u8 0, Value.int IntKind.u8 0] := rfl

theorem andNot_table : ∀ (r : Fin 8) (x : Fin 256), bits .andNot .u8 (x.val : Int) (255 / 2 ^ r.val) = ((x.val / 2 ^ (8 - r.val) * 2 ^ (8 - r.val) : Nat) : Int) := by decide +kernel
theorem andNot_tb (x : UInt8) (r : Nat) (hr : r < 8) : bits .andNot .u8 (x.toNat : Int) (255 / 2 ^ r) = ((tb x r).toNat : Int) := by
  have := andNot_table ⟨r, hr⟩ ⟨x.toNat, x.toNat_lt⟩
  rw [tb_toNat]
  exact this
end Go.Proofs.YtihakjcccbionaaGreatDoor

end
section
/-
  The walk of 'first': the first bits of an address's bytes.
-/
namespace Go.Proofs.YtihakjcccbionaaGreatDoor
open Go.RowKit

set_option maxRecDepth 100000 in
set_option maxHeartbeats 1000000 in
theorem first_any (w : World) (l : List UInt8) (n : Nat) (hl : l.length = 16) (hn : n ≤ 128) :
    Calls Tryz.prog 101 #[.agg (l.map byteV).toArray, .int .i64 (n : Int)] w fun e w' => e = .returned (.agg ((maskL l n).map byteV).toArray) ∧ Below w.heap.size w w' := by
  obtain ⟨k, hk⟩ : ∃ k, k = n / 8 := ⟨_, rfl⟩
  obtain ⟨r, hr⟩ : ∃ r, r = n % 8 := ⟨_, rfl⟩
  have hk16 : k ≤ 16 := by omega
  have hr8 : r < 8 := by omega
  have ek : ((n : Int) / 8) = (k : Int) := by omega
  have er : ((n : Int) % 8) = (r : Int) := by omega
  have HK := hide hk
  have HR := hide hr
  clear hk hr
  go_enter Tryz.func101, Tryz.ntmps101
  go_wp2
  rw [er]
  obtain ⟨W, hW, h0, h1, h2, hz, hb⟩ := three_blocks w (.cells (l.map byteV).toArray 22) (.cells zer16.toArray 22) (.cells zer16.toArray 22)
  rw [zer16_ok] at hW
  rw [hW]
  have hki : (k : Int) ≤ 16 := by omega
  have hk0 : (0 : Int) ≤ (k : Int) := by omega
  clear hW ek er
  have hz16 : splice zer16 0 ((l.take k).map byteV) = (maskL l (8 * k)).map byteV := by
    have e := maskL_first l n (by omega)
    rw [← HK.out, hl] at e
    rw [Nat.mul_comm, e, splice, List.map_append, List.map_replicate, List.take_zero, List.nil_append, Nat.zero_add, List.length_map, List.length_take, hl, Nat.min_eq_left hk16, zer16, List.drop_replicate]
    rfl
  have hsrc : ∀ j v, ((l.take k).map byteV)[j]? = some v → W.drew.cell? ((⟨w.heap.size, 0, none⟩ : Addr).add j) = some v := fun j v hv => by
    rw [add_none, World.cell?_drew, cell_of_row W _ _ _ _ _ h0]
    rw [List.map_take, List.getElem?_take] at hv
    split at hv
    · simpa using hv
    · cases hv
  have hlk : ((l.take k).map byteV).length = Nat.min k 16 := by rw [List.length_map, List.length_take, hl]
  have hfk : 0 + ((l.take k).map byteV).length ≤ zer16.length := by simp [zer16]; omega
  go_region_law ((refine step_copy_splice rfl (.tmp 12) (.tmp 14) 28 28 rfl 5 Tryz.underlying28 (by kernel_rfl) (some ⟨w.heap.size + 1 + 1, 0, none⟩) (some ⟨w.heap.size, 0, none⟩) 16 16 k 16 (by rfl) (by rfl) (w.heap.size + 1 + 1) 0 zer16 22 h2 ((l.take k).map byteV) hlk (fun _ => ⟨rfl, _, rfl, hsrc⟩) hfk (byteV_one _) (w.heap.size + 1 + 1) W (Below.refl _ W).drew (Nat.le_refl _) ?_; intro w4 hg4 hb4))
  rw [hz16] at hg4
  have h04 := (hb4.block w.heap.size (by omega)).trans h0
  have h14 := (hb4.block (w.heap.size + 1) (by omega)).trans h1
  have hb := hb.trans (hb4.mono (by omega))
  have hb0 := hide hb
  clear h0 h1 h2 hz16 hb4 hb hsrc hlk hfk
  have hu := Tryz.underlying22
  by_cases hr0 : r = 0
  · subst hr0
    have hfin : maskL l (8 * k) = maskL l n := by rw [show n = 8 * k from by have := HK.out; have := HR.out; omega]
    rw [hfin] at hg4
    have hs1 := arr_size (l := maskL l n) (by rw [length_maskL, hl])
    have hs2 := arr_one (maskL l n)
    have HF := hide hg4.out
    obtain ⟨Y, hY⟩ : ∃ Y, Y = ((maskL l n).map byteV).toArray := ⟨_, rfl⟩
    rw [← hY] at HF hs1 hs2
    have HY := hide hY
    clear hg4 hY
    have hi1 : (Tryz.prog.info? 22).map (·.size) = some Y.size := by rw [hs1]; exact info_arr
    have hz1 : zer16.toArray.size = Y.size := by rw [hs1]; rfl
    go_wp2_with (first
      | (with_reducible refine wpList_load_row rfl 22 (.tmp 5) rfl (w.heap.size + 1 + 1) rfl 22 Y (0, 0) _ HF.out hu rfl hi1 ?_)
      | (with_reducible refine wpList_store_let rfl 22 (.tmp 4) (.tmp 26) rfl (w.heap.size + 1) Y rfl rfl 22 zer16.toArray h14 hi1 hz1 hs2 ?_
         intro w5 h15 hoth hz5 hb5))
    refine bodyPost_ret (results_cell_row (fn := Tryz.f101) Tryz.results101 _ _ (w.heap.size + 1) 22 Y (0, 0) _ rfl h15 hu rfl hi1) rfl ⟨by rw [HY.out], hb0.out.trans (hb5.mono (by omega))⟩
  · have hri : (0 : Int) < (r : Int) := by omega
    have hk15' : n / 8 < l.length := by have := HK.out; have := HR.out; omega
    have hk15 : k < 16 := by have := HK.out; have := HR.out; omega
    have hki : (k : Int) < 16 := by omega
    have hc0 : w4.cell? ⟨w.heap.size, k, none⟩ = some (.int .u8 (l[k].toNat : Int)) := by rw [cell_of_row w4 _ _ _ _ _ h04]; simp [byteV, hl, hk15]
    have hlen : k < (maskL l (8 * k)).length := by rw [length_maskL, hl]; exact hk15
    obtain ⟨y, hy⟩ : ∃ y, y = (maskL l (8 * k))[k] := ⟨_, rfl⟩
    have hc2 : w4.cell? ⟨w.heap.size + 1 + 1, k, none⟩ = some (.int .u8 (y.toNat : Int)) := by rw [cell_of_row w4 _ _ _ _ _ hg4.out]; simp [byteV, hlen, hy]
    have hf2 : w4.frozen? ⟨w.heap.size + 1 + 1, k, none⟩ = false := frozen_of_row w4 _ _ _ _ hg4.out
    have hx := l[k].toNat_lt
    have HG4 := hide hg4
    obtain ⟨xb, hxb⟩ : ∃ xb, xb = l[k] := ⟨_, rfl⟩
    rw [← hxb] at hc0 hx
    clear hg4
    go_wp2
    go_region
    have hfin : (maskL l (8 * k)).set k (tb l[k] r) = maskL l n := by
      obtain rfl := HK.out
      obtain rfl := HR.out
      rw [maskL_more l n hk15' (by omega), Nat.mul_comm]
    have hs1 := arr_size (l := maskL l n) (by rw [length_maskL, hl])
    have hs2 := arr_one (maskL l n)
    obtain ⟨w6, hw6⟩ : ∃ w6, w6 = (w4.setCell { block := w.heap.size + 1 + 1, off := k } (Value.int IntKind.u8 (bits BinOp.andNot IntKind.u8 (↑l[k].toNat) (255 / 2 ^ r)))).drew := ⟨_, rfl⟩
    rw [← hw6]
    have h26 : w6.heap[w.heap.size + 1 + 1]? = some (.cells ((maskL l n).map byteV).toArray 22 (0, 0)) := by
      rw [hw6, andNot_tb _ _ hr8]
      have := heap_setCell_same w4 (w.heap.size + 1 + 1) k _ _ (byteV (tb l[k] r)) HG4.out.out
      rw [List.setIfInBounds_toArray, ← List.map_set, hfin] at this
      exact this
    have h16 : w6.heap[w.heap.size + 1]? = some (.cells zer16.toArray 22 (0, 0)) := by
      rw [hw6]; exact (heap_setCell_other w4 _ _ _ (by simp)).trans h14
    have hb6' : Below w.heap.size w4 w6 := by rw [hw6]; exact ((Below.refl w.heap.size w4).setCell (by show w.heap.size ≤ w.heap.size + 1 + 1; omega) _).drew
    have hb6 := hide (hb0.out.trans hb6')
    obtain ⟨Y, hY⟩ : ∃ Y, Y = ((maskL l n).map byteV).toArray := ⟨_, rfl⟩
    rw [← hY] at h26 hs1 hs2
    have HY := hide hY
    have HF := hide h26
    clear hY h26 hw6
    have hi1 : (Tryz.prog.info? 22).map (·.size) = some Y.size := by rw [hs1]; exact info_arr
    have hz1 : zer16.toArray.size = Y.size := by rw [hs1]; rfl
    go_wp2_with (first
      | (with_reducible refine wpList_load_row rfl 22 (.tmp 5) rfl (w.heap.size + 1 + 1) rfl 22 Y (0, 0) _ HF.out hu rfl hi1 ?_)
      | (with_reducible refine wpList_store_let rfl 22 (.tmp 4) (.tmp 26) rfl (w.heap.size + 1) Y rfl rfl 22 zer16.toArray h16 hi1 hz1 hs2 ?_
         intro w5 h15 hoth hz5 hb5))
    refine bodyPost_ret (results_cell_row (fn := Tryz.f101) Tryz.results101 _ _ (w.heap.size + 1) 22 Y (0, 0) _ rfl h15 hu rfl hi1) rfl ⟨by rw [HY.out], hb6.out.trans (hb5.mono (by omega))⟩
end Go.Proofs.YtihakjcccbionaaGreatDoor

end
section
/-
  Loads of whole structs and arrays in one step of the walk, in whatever region: what the cells of a block say.
-/
namespace Go.Proofs.YtihakjcccbionaaGreatDoor
open Go.RowKit

theorem built_kind (v : Bool) : Tryz.prog.built 24 [(0, .bool v)] = some (adL v (List.replicate 16 0)).toArray := by kernel_rfl
theorem built_sixteen (v : Bool) (b0 b1 b2 b3 b4 b5 b6 b7 b8 b9 b10 b11 b12 b13 b14 b15 : UInt8) : Tryz.prog.built 24 [(0, .bool v), (1, .agg ([b0, b1, b2, b3, b4, b5, b6, b7, b8, b9, b10, b11, b12, b13, b14, b15].map byteV).toArray)] = some (adL v [b0, b1, b2, b3, b4, b5, b6, b7, b8, b9, b10, b11, b12, b13, b14, b15]).toArray := by kernel_rfl
theorem built_both (v : Bool) (l : List UInt8) (h : l.length = 16) : Tryz.prog.built 24 [(0, .bool v), (1, .agg (l.map byteV).toArray)] = some (adL v l).toArray := by
  match l, h with
  | [_, _, _, _, _, _, _, _, _, _, _, _, _, _, _, _], _ => exact built_sixteen _ _ _ _ _ _ _ _ _ _ _ _ _ _ _ _ _

/-- an address that nothing has been put into. -/
def adZ : Array Value := (adL false (List.replicate 16 0)).toArray
theorem adZ_ok : adZ = #[Value.bool false, Value.int IntKind.u8 0, Value.int IntKind.u8 0, Value.int IntKind.u8 0, Value.int IntKind.u8 0, Value.int IntKind.u8 0, Value.int IntKind.u8 0, Value.int IntKind.u8 0, Value.int IntKind.u8 0, Value.int IntKind.u8 0, Value.int IntKind.u8 0, Value.int IntKind.u8 0, Value.int IntKind.u8 0, Value.int IntKind.u8 0, Value.int IntKind.u8 0, Value.int IntKind.u8 0, Value.int IntKind.u8 0] := rfl
theorem adZ_size : adZ.size = 17 := rfl
theorem built_none : Tryz.prog.built 24 [] = some adZ := by kernel_rfl
theorem adZ_ad : AdV adZ false (List.replicate 16 0) := AdV.mk' rfl

theorem rs_arr : rowSize Tryz.prog 22 = some 16 := by kernel_rfl
theorem rs_ad : rowSize Tryz.prog 24 = some 17 := by kernel_rfl

/-! what an address's cells are, cut out of its block -/
theorem AdV.x0 {X : Array Value} {v : Bool} {l : List UInt8} (h : AdV X v l) : X.extract 0 17 = X := by
  rw [← h.size]; simp
theorem AdV.x1 {X : Array Value} {v : Bool} {l : List UInt8} (h : AdV X v l) : X.extract 1 17 = (l.map byteV).toArray := by
  rw [h.eq, List.extract_toArray]
  congr 1
  simp only [adL, List.extract_eq_take_drop]
  rw [List.drop_succ_cons, List.drop_zero, List.take_of_length_le (by simp [h.len])]
end Go.Proofs.YtihakjcccbionaaGreatDoor

end
section
/-
  The walks of the questions about one address or two: how many bytes, are they one, can it be, which stands ahead.
-/
namespace Go.Proofs.YtihakjcccbionaaGreatDoor
open Go.RowKit
attribute [local go_sem ↓] exec_span
attribute [local go_sem] spanQ_ptr spanC_some heap_of_drew rs_arr rs_ad
set_option maxRecDepth 100000
set_option linter.unusedVariables false

def sizeA (v : Bool) : Nat := if v then 16 else 4

set_option maxHeartbeats 400000 in
theorem refsize_any (w : World) (X : Array Value) (v : Bool) (l : List UInt8) (h : AdV X v l) :
    Calls Tryz.prog 81 #[.agg X] w fun e w' => e = .returned (.int .i64 (sizeA v : Nat)) ∧ Below w.heap.size w w' := by
  have h0 := h.c0
  cases v
  all_goals
    go_enter Tryz.func81, Tryz.ntmps81
    go_wp2
    go_ret
    exact ⟨rfl, (Below.refl _ _).alloc (Nat.le_refl _) _⟩

theorem sizeof_u8 : ∀ w, (sizeOf 5).run Tryz.prog w = .ok 1 w := fun _ => by kernel_rfl

theorem eql_arr (w : World) (l l' : List UInt8) (hl : l.length = 16) (hl' : l'.length = 16) : (binOp .eql 22 (.agg (l.map byteV).toArray) (.agg (l'.map byteV).toArray)).run Tryz.prog w = .ok (.bool (l == l')) w :=
  run_eql_bytes w 22 5 16 Tryz.underlying22 Tryz.underlying5 sizeof_u8 l l' hl hl'

set_option maxHeartbeats 1000000 in
theorem right_any (w : World) (X : Array Value) (v : Bool) (l : List UInt8) (h : AdV X v l) :
    Calls Tryz.prog 95 #[.agg X] w fun e w' => e = .returned (.bool (rightL v l)) ∧ Below w.heap.size w w' := by
  go_enter Tryz.func95, Tryz.ntmps95
  have hx0 := h.c0
  have hxs := h.size
  have hx1 := h.x1
  obtain ⟨W, hW, h1, hz, hb⟩ := one_block w (.cells X 24)
  have k1 := h.kind h1
  have heq := fun W => eql_arr W l (maskL l 32) h.len (by rw [length_maskL, h.len])
  have hfst := hide (fun W => first_any W l 32 h.len (by omega))
  have hB := hide hb
  have hlt : Hid (w.heap.size < W.heap.size) := hide (by omega)
  cases v
  · go_wp2
    clear hW hb hz
    go_region_law (first
      | (go_simp; go_at_call 101; refine (hfst.out _).mono ?_; rintro e w2 ⟨rfl, hb2⟩; have p0 : w2.heap[w.heap.size]? = some (.cells X 24 (0, 0)) := (hb2.block w.heap.size (by exact hlt.out)).trans h1))
    all_goals
      go_wp2
      go_ret
      exact ⟨rfl, hB.out.trans ((below_undrew' hb2).mono (by have := hlt.out; simp; omega))⟩
  · go_wp2
    go_quiet (fail)
    go_wp2
    go_ret
    exact ⟨by simp [rightL], below_drewN hB.out _⟩

/-- behind some bytes from the fifth on that are 0. -/
theorem refright_step {l : List UInt8} {j : Nat} (hj : j < l.length) (h : ∀ k (hk : k < l.length), 4 ≤ k → k < j → l[k] = 0) (h0 : l[j] = 0) : ∀ k (hk : k < l.length), 4 ≤ k → k < j + 1 → l[k] = 0 := fun k hk h4 hkj => by
  rcases Nat.lt_or_eq_of_le (Nat.le_of_lt_succ hkj) with h1 | h1
  · exact h k hk h4 h1
  · subst h1; exact h0

theorem rightL_four {l : List UInt8} (h : l.length = 16) (h0 : ∀ k (hk : k < l.length), 4 ≤ k → l[k] = 0) : rightL false l = true := by
  have := (right_four l h).2 h0
  unfold rightL
  rw [this]
  simp
theorem rightL_not {l : List UInt8} (h : l.length = 16) {j : Nat} (hj : j < l.length) (h4 : 4 ≤ j) (h0 : l[j] ≠ 0) : rightL false l = false := by
  rw [Bool.eq_false_iff]
  intro e
  have e' : maskL l 32 = l := by
    unfold rightL at e
    rw [Bool.false_or, beq_iff_eq] at e
    exact e.symm
  exact h0 ((right_four l h).1 e' j hj h4)

set_option maxHeartbeats 1000000 in
theorem refright_any (w : World) (X : Array Value) (v : Bool) (l : List UInt8) (h : AdV X v l) :
    Calls Tryz.prog 79 #[.agg X] w fun e w' => e = .returned (.bool (rightL v l)) ∧ Below w.heap.size w w' := by
  go_enter Tryz.func79, Tryz.ntmps79
  have hx0 := h.c0
  have hxs := h.size
  have hx1 := h.x0
  obtain ⟨W, hW, h1, hz, hb⟩ := one_block w (.cells X 24)
  have hsz := hide (refsize_any W X v l h)
  have hB := hide hb
  have hlt : Hid (w.heap.size < W.heap.size) := hide (by omega)
  clear hz hb
  go_wp2_with (go_at_call 81; refine hsz.out.mono ?_; rintro e w2 ⟨rfl, hb2⟩)
  have h2 : w2.heap[w.heap.size]? = some (.cells X 24 (0, 0)) := (hb2.block w.heap.size hlt.out).trans h1
  have hcell : ∀ j (hj : j < l.length), w2.cell? ⟨w.heap.size, 1 + j, none⟩ = some (.int .u8 (l[j].toNat : Int)) := fun j hj => by rw [cell_of_row w2 _ _ _ _ _ h2]; exact h.at j hj
  have HC := hide hcell
  have HB := hide (hB.out.trans (hb2.mono (Nat.le_of_lt hlt.out)))
  have hl := h.len
  clear hsz hcell hW h1 hb2 h2 hB
  cases v
  · go_loop [3] (fun i => ∃ j : Nat, 4 ≤ j ∧ j ≤ 16 ∧ i = .int .i64 (j : Int) ∧ Hid (∀ k (hk : k < l.length), 4 ≤ k → k < j → l[k] = 0)) (fun i => 16 - (intOf i).toNat)
    case atStart => exact ⟨4, by omega, by omega, rfl, hide (fun k hk h4 h0 => by omega)⟩
    case round =>
      obtain ⟨j, h4, hj, rfl, hall⟩ := hrel
      by_cases hlt2 : j < 16
      · have hjl : j < l.length := by omega
        obtain ⟨x, hx⟩ : ∃ x, x = l[j] := ⟨_, rfl⟩
        have hc := HC.out j hjl
        rw [← hx] at hc
        have hj0 : (0 : Int) ≤ (j : Int) := by omega
        have hj1 : (j : Int) < 16 := by omega
        have HX := hide hx
        clear hx
        by_cases hx0 : x = 0
        · subst hx0
          have hst := hide (refright_step hjl hall.out HX.out.symm)
          clear hall
          go_wp2
          go_round
          case rel => exact ⟨j + 1, by omega, by omega, by go_num, hst⟩
          case measure => simp [intOf]; omega
        · have hxi : ((x.toNat : Int) != 0) = true := by
            simp
            intro e
            exact hx0 (UInt8.toNat.inj (by simpa using e))
          have hres := hide (rightL_not hl hjl h4 (by rw [← HX.out]; exact hx0))
          go_wp2
          go_ret
          exact ⟨by rw [hres.out]; rfl, HB.out⟩
      · obtain rfl : j = 16 := by omega
        have hres := hide (rightL_four hl (fun k hk h4 => hall.out k hk h4 (by omega)))
        clear hall
        go_wp2
        go_ret
        exact ⟨by rw [hres.out]; rfl, HB.out⟩
  · go_loop [3] (fun i => i = .int .i64 16) (fun i => 0)
    case atStart => rfl
    case round =>
      obtain rfl := hrel
      go_wp2
      go_ret
      exact ⟨by simp [rightL], HB.out⟩
end Go.Proofs.YtihakjcccbionaaGreatDoor

end
section
/-
  The walks of the order of addresses.
-/
namespace Go.Proofs.YtihakjcccbionaaGreatDoor
open Go.RowKit
attribute [local go_sem ↓] exec_span
attribute [local go_sem] spanQ_ptr spanC_some heap_of_drew rs_arr rs_ad
set_option maxRecDepth 100000
set_option linter.unusedVariables false

theorem bytesOf_ints : ∀ (l : List UInt8), Lib.bytesOf (l.map fun x => (x.toNat : Int)) = l
  | [] => rfl
  | x :: l => by
    have ih := bytesOf_ints l
    unfold Lib.bytesOf at ih ⊢
    simp only [List.map_cons, ih]
    congr 1
    apply UInt8.toNat.inj
    simp
theorem run_bytesOf (P : Program) (w : World) (b off c : Nat) (l : List UInt8) (h : ∀ i (h : i < l.length), w.cell? ⟨b, off + i, none⟩ = some (.int .u8 (l[i].toNat : Int))) :
    (Extern.Bytes.bytesOf (.slice (some ⟨b, off, none⟩) l.length c)).run P w = .ok ⟨l.toArray⟩ w := by
  have := Lib.run_loadBytesX (P := P) w (l.map fun x => (x.toNat : Int)) ⟨b, off, none⟩ .empty (fun j x hj => by
    obtain ⟨hjl, hjv⟩ := List.getElem?_eq_some_iff.1 hj
    rw [add_none, ← hjv, h j (by simpa using hjl)]
    simp)
  rw [List.length_map, bytesOf_ints] at this
  unfold Extern.Bytes.bytesOf
  rw [this]
  congr 1
  apply ByteArray.ext
  show (#[] : Array UInt8) ++ l.toArray = l.toArray
  simp

theorem run_compare_bytes {P : Program} (w : World) (b off c b' off' c' : Nat) (l l' : List UInt8) (h : ∀ i (h : i < l.length), w.cell? ⟨b, off + i, none⟩ = some (.int .u8 (l[i].toNat : Int))) (h' : ∀ i (h : i < l'.length), w.cell? ⟨b', off' + i, none⟩ = some (.int .u8 (l'[i].toNat : Int))) :
    (Extern.BytealgCompare.compare #[.slice (some ⟨b, off, none⟩) l.length c, .slice (some ⟨b', off', none⟩) l'.length c']).run P w = .ok (.int .i64 (Lib.compareBytes l l')) w := by
  have h1 := run_bytesOf P w b off c l h
  have h2 := run_bytesOf P w b' off' c' l' h'
  change Sem.run P (do pure (goInt (Extern.BytealgCompare.cmp (← Extern.Bytes.bytesOf (.slice (some ⟨b, off, none⟩) l.length c)) (← Extern.Bytes.bytesOf (.slice (some ⟨b', off', none⟩) l'.length c'))))) w = _
  simp only [Sem.run_bind, h1, h2, Sem.run_pure, Result.andThen]
  rw [Lib.cmp_eq]
  rfl

theorem compare_lex : ∀ (a b : List UInt8), a.length = b.length → (Lib.compareBytes a b < 0 ↔ lexLt a b = true)
  | [], [], _ => by simp [Lib.compareBytes, lexLt]
  | x :: a, y :: b, h => by
    unfold Lib.compareBytes lexLt
    split
    · simp
    · split
      · simp
      · exact compare_lex a b (by simpa using h)

theorem lexLt_cons (a b : UInt8) (s t : List UInt8) : lexLt (a :: s) (b :: t) = if a < b then true else if b < a then false else lexLt s t := rfl
/-- the loop of 'Cmp': the bytes up to the first one that is not the same. -/
theorem lexLt_drop {l l' : List UInt8} (hl : l.length = l'.length) : ∀ (j : Nat) (hj : j ≤ l.length), (∀ k (hk : k < l.length), k < j → l[k] = l'[k]'(by omega)) → lexLt l l' = lexLt (l.drop j) (l'.drop j)
  | 0, _, _ => by simp
  | j + 1, hj, h => by
    rw [lexLt_drop hl j (by omega) (fun k hk hkj => h k hk (by omega))]
    rw [List.drop_eq_getElem_cons (show j < l.length by omega), List.drop_eq_getElem_cons (show j < l'.length by omega)]
    have := h j (by omega) (by omega)
    rw [lexLt_cons, this, if_neg (UInt8.lt_irrefl _), if_neg (UInt8.lt_irrefl _)]
theorem lexLt_at {l l' : List UInt8} (hl : l.length = l'.length) {j : Nat} (hj : j < l.length) (h : ∀ k (hk : k < l.length), k < j → l[k] = l'[k]'(by omega)) (hne : l[j] ≠ l'[j]'(by omega)) : lexLt l l' = decide ((l[j].toNat : Int) - ((l'[j]'(by omega)).toNat : Int) < 0) := by
  rw [lexLt_drop hl j (by omega) h, List.drop_eq_getElem_cons hj, List.drop_eq_getElem_cons (show j < l'.length by omega)]
  rw [lexLt_cons]
  have hne' : l[j].toNat ≠ (l'[j]'(by omega)).toNat := fun e => hne (UInt8.toNat.inj e)
  simp only [UInt8.lt_iff_toNat_lt]
  split
  · next h1 => exact (decide_eq_true (by omega)).symm
  · next h1 =>
    rw [if_pos (by omega)]
    exact (decide_eq_false (by omega)).symm
theorem lexLt_same {l l' : List UInt8} (hl : l.length = l'.length) (h : ∀ k (hk : k < l.length), l[k] = l'[k]'(by omega)) : l = l' := List.ext_getElem hl (fun k h1 h2 => h k h1)
theorem cmp_step {l l' : List UInt8} (hl : l.length = l'.length) {j : Nat} (hj : j < l.length) (h : ∀ k (hk : k < l.length), k < j → l[k] = l'[k]'(by omega)) (h0 : l[j] = l'[j]'(by omega)) : ∀ k (hk : k < l.length), k < j + 1 → l[k] = l'[k]'(by omega) := fun k hk hkj => by
  rcases Nat.lt_or_eq_of_le (Nat.le_of_lt_succ hkj) with h1 | h1
  · exact h k hk h1
  · subst h1; exact h0

/-- what a comparison's number says: below 0 just if one stands ahead, 0 just if they are one. -/
def CmpIs (n : Int) (v : Bool) (l : List UInt8) (v' : Bool) (l' : List UInt8) : Prop := decide (n < 0) = lessA v l v' l' ∧ (n = 0 ↔ v = v' ∧ l = l')

end Go.Proofs.YtihakjcccbionaaGreatDoor

end
section
/-
  The walks of the first bits of an address: Mask and Within, the program's and the document's own.
-/
namespace Go.Proofs.YtihakjcccbionaaGreatDoor
open Go.RowKit
attribute [local go_sem ↓] exec_span exec_put exec_build
attribute [local go_sem] spanQ_ptr spanC_some heap_of_drew rs_arr rs_ad putAt_ptr putOk_ptr oldOk_some built_none built_kind
set_option maxRecDepth 100000
set_option linter.unusedVariables false

/-- what a masked address is, and the error. -/
def maskOk (v : Bool) (l : List UInt8) (n : Int) : Bool := rightL v l && decide (0 ≤ n) && decide (n ≤ ((8 * sizeA v : Nat) : Int))
def maskV (v : Bool) (l : List UInt8) (n : Int) : Bool := maskOk v l n && v
def maskB (v : Bool) (l : List UInt8) (n : Int) : List UInt8 := if maskOk v l n then maskL l n.toNat else List.replicate 16 0
def maskE (v : Bool) (l : List UInt8) (n : Int) : Int := if maskOk v l n then 0 else 1
theorem length_maskB (v : Bool) (l : List UInt8) (n : Int) (h : l.length = 16) : (maskB v l n).length = 16 := by
  unfold maskB; split
  · rw [length_maskL, h]
  · simp


theorem mask_no {v : Bool} {l : List UInt8} {n : Int} (h : maskOk v l n = false) : maskE v l n = 1 := by unfold maskE; rw [h]; rfl
theorem mask_noV {v : Bool} {l : List UInt8} {n : Int} (h : maskOk v l n = false) : maskV v l n = false := by unfold maskV; rw [h]; rfl
theorem mask_noB {v : Bool} {l : List UInt8} {n : Int} (h : maskOk v l n = false) : maskB v l n = List.replicate 16 0 := by unfold maskB; rw [h]; rfl
theorem mask_yes {v : Bool} {l : List UInt8} {n : Int} (h : maskOk v l n = true) : maskE v l n = 0 := by unfold maskE; rw [h]; rfl
theorem mask_yesV {v : Bool} {l : List UInt8} {n : Int} (h : maskOk v l n = true) : maskV v l n = v := by unfold maskV; rw [h]; rfl
theorem mask_yesB {v : Bool} {l : List UInt8} {n : Int} (h : maskOk v l n = true) : maskB v l n = maskL l n.toNat := by unfold maskB; rw [h]; rfl

theorem row_kept {B : Nat} {W w2 : World} {g : Nat} {o : Obj} (hb : Below B W w2) (hg : g < B) (h : W.heap[g]? = some o) : w2.heap[g]? = some o := (hb.block g hg).trans h

end Go.Proofs.YtihakjcccbionaaGreatDoor

end
section
/-
  The walks of the document's own masks: bit by bit; of Within; and of fixed calls.
-/
namespace Go.Proofs.YtihakjcccbionaaGreatDoor
open Go.RowKit
attribute [local go_sem ↓] exec_span exec_put exec_build heap_alloc_new
attribute [local go_sem] spanQ_ptr spanC_some heap_of_drew rs_arr rs_ad putAt_ptr putOk_ptr oldOk_some built_none World.setRow_alloc_new
set_option maxRecDepth 100000
set_option linter.unusedVariables false

theorem wrap_i (n : Int) (h1 : -9223372036854775808 ≤ n) (h2 : n ≤ 9223372036854775807) : IntKind.i64.wrap n = n := by rw [IntKind.wrap_i64]; omega
theorem wrap_u (n : Int) (h1 : 0 ≤ n) (h2 : n ≤ 18446744073709551615) : IntKind.u64.wrap n = n := by rw [IntKind.wrap_u64]; omega

theorem bit_table : ∀ (r : Fin 8) (x : Fin 256), bits .and .u8 ((x.val : Int) / 2 ^ (7 - r.val)) 1 = ((x.val / 2 ^ (7 - r.val) % 2 : Nat) : Int) := by decide +kernel
theorem bit_eq (x : UInt8) (r : Nat) (hr : r < 8) : bits .and .u8 ((x.toNat : Int) / 2 ^ (7 - r)) 1 = ((x.toNat / 2 ^ (7 - r) % 2 : Nat) : Int) := bit_table ⟨r, hr⟩ ⟨x.toNat, x.toNat_lt⟩

theorem or_table : ∀ (r : Fin 8) (x : Fin 256), bits .or .u8 ((x.val / 2 ^ (8 - r.val) * 2 ^ (8 - r.val) : Nat) : Int) (IntKind.u8.wrap (((x.val / 2 ^ (7 - r.val) % 2 : Nat) : Int) * 2 ^ (7 - r.val))) = ((x.val / 2 ^ (8 - (r.val + 1)) * 2 ^ (8 - (r.val + 1)) : Nat) : Int) := by decide +kernel
theorem or_eq (x : UInt8) (r : Nat) (hr : r < 8) : bits .or .u8 ((tb x r).toNat : Int) (IntKind.u8.wrap (((x.toNat / 2 ^ (7 - r) % 2 : Nat) : Int) * 2 ^ (7 - r))) = ((tb x (r + 1)).toNat : Int) := by
  have := or_table ⟨r, hr⟩ ⟨x.toNat, x.toNat_lt⟩
  rw [tb_toNat, tb_toNat]
  exact this
theorem AdV.set {v : Bool} {l : List UInt8} (h : l.length = 16) (j : Nat) (u : UInt8) : (adL v l).toArray.setIfInBounds (1 + j) (.int .u8 (u.toNat : Int)) = (adL v (l.set j u)).toArray := by
  rw [List.setIfInBounds_toArray, Nat.add_comm]
  unfold adL
  rw [List.set_cons_succ, List.map_set]
  rfl

theorem adk_ad (v : Bool) : AdV (adL v (List.replicate 16 0)).toArray v (List.replicate 16 0) := AdV.mk' rfl

end Go.Proofs.YtihakjcccbionaaGreatDoor

end
section
/-
  The equality of two addresses, as the walk asks it.
-/
namespace Go.Proofs.YtihakjcccbionaaGreatDoor
open Go.RowKit
attribute [local go_sem ↓] exec_span exec_put exec_build heap_alloc_new heap_old
attribute [local go_sem] spanQ_ptr spanC_some heap_of_drew rs_arr rs_ad putAt_ptr putOk_ptr oldOk_some built_none World.setRow_alloc_new
set_option maxRecDepth 100000
set_option linter.unusedVariables false

theorem part_kind (X : Array Value) (v : Bool) (h0 : X[0]? = some (.bool v)) (w : World) : (part 4 X 0).run Tryz.prog w = .ok (.bool v) w := by
  have hu := Tryz.underlying4
  simp [part, isAgg, run_underlying hu, h0]
theorem size_arr : ∀ w, (sizeOf 22).run Tryz.prog w = .ok 16 w := fun _ => by kernel_rfl
theorem isagg_arr : ∀ w, (isAgg 22).run Tryz.prog w = .ok true w := fun _ => by kernel_rfl
theorem part_arr (X : Array Value) (l : List UInt8) (hs : X.size = 17) (h1 : X.extract 1 17 = (l.map byteV).toArray) (w : World) : (part 22 X 1).run Tryz.prog w = .ok (.agg (l.map byteV).toArray) w := by
  simp [part, hs, h1]
theorem fields_ad : (Tryz.prog.fieldsOf 24).toList.map (fun f => (f.type, f.offset, f.name)) = [(4, 0, "V6"), (22, 1, "B")] := by kernel_rfl
theorem under_ad : Tryz.prog.underlying 24 = some (.struct (Tryz.prog.fieldsOf 24)) := by kernel_rfl
theorem held_ad : Tryz.prog.stoodInHeld 24 = false := by kernel_rfl
theorem list_two {α β : Type} {g : α → β} {a b : β} : ∀ {L : List α}, L.map g = [a, b] → ∃ x y, L = [x, y] ∧ g x = a ∧ g y = b
  | [x, y], h => by simp at h; exact ⟨x, y, rfl, h.1, h.2⟩
  | [], h => by simp at h
  | [_], h => by simp at h
  | _ :: _ :: _ :: _, h => by simp at h
theorem equalIn_ad (d : Nat) (w : World) (X Y : Array Value) (v v' : Bool) (l l' : List UInt8) (h : AdV X v l) (h' : AdV Y v' l') : (Op.equalIn (d + 4) 24 (.agg X) (.agg Y)).run Tryz.prog w = .ok (v == v' && l == l') w := by
  rw [run_equalIn_struct w (d + 3) 24 X Y under_ad held_ad]
  obtain ⟨f0, f1, hfs, e0, e1⟩ := list_two fields_ad
  rw [hfs]
  simp only [Prod.mk.injEq] at e0 e1
  obtain ⟨t0, o0, n0⟩ := e0
  obtain ⟨t1, o1, n1⟩ := e1
  simp only [Op.eqFields, t0, o0, n0, t1, o1, n1]
  rw [if_pos (by decide), if_pos (by decide)]
  have e1 := run_equalIn_bool' (P := Tryz.prog) w (d + 2) 4 v v' Tryz.underlying4
  have e2 := run_equalIn_bytes (P := Tryz.prog) w (d + 1) 22 5 16 Tryz.underlying22 Tryz.underlying5 sizeof_u8 l l' h.len h'.len
  simp only [Sem.run_bind, part_kind X v h.c0, part_kind Y v' h'.c0, Result.andThen_ok, e1]
  cases hvv : (v == v')
  · simp
  · simp only [Bool.not_true, Bool.false_eq_true, if_false, Bool.true_and, Sem.run_bind, part_arr X l h.size h.x1, part_arr Y l' h'.size h'.x1, Result.andThen_ok]
    have e3 : (Op.equalIn (d + 3) 22 (.agg (l.map byteV).toArray) (.agg (l'.map byteV).toArray)).run Tryz.prog w = .ok (l == l') w := e2
    rw [e3]
    cases (l == l') <;> simp
theorem eql_ad (w : World) (X Y : Array Value) (v v' : Bool) (l l' : List UInt8) (h : AdV X v l) (h' : AdV Y v' l') : (binOp .eql 24 (.agg X) (.agg Y)).run Tryz.prog w = .ok (.bool (v == v' && l == l')) w := by
  rw [run_eql_struct, equalIn_ad 9996 w X Y v v' l l' h h']
  rfl
theorem neq_ad (w : World) (X Y : Array Value) (v v' : Bool) (l l' : List UInt8) (h : AdV X v l) (h' : AdV Y v' l') : (binOp .neq 24 (.agg X) (.agg Y)).run Tryz.prog w = .ok (.bool (!(v == v' && l == l'))) w := by
  rw [run_neq_struct, equalIn_ad 9996 w X Y v v' l l' h h']
  rfl
end Go.Proofs.YtihakjcccbionaaGreatDoor

end
section
/-
  The walks of Within: are two addresses alike in so many first bits, the program's and the document's own.
-/
namespace Go.Proofs.YtihakjcccbionaaGreatDoor
open Go.RowKit
attribute [local go_sem ↓] exec_span exec_put exec_build heap_alloc_new heap_old
attribute [local go_sem] spanQ_ptr spanC_some heap_of_drew rs_arr rs_ad putAt_ptr putOk_ptr oldOk_some built_none World.setRow_alloc_new
set_option maxRecDepth 100000
set_option linter.unusedVariables false

def withinS (v : Bool) (l : List UInt8) (v' : Bool) (l' : List UInt8) (n : Int) : Bool := maskOk v l n && maskOk v' l' n && (v == v' && maskL l n.toNat == maskL l' n.toNat)


theorem within_yes {v v' : Bool} {l l' : List UInt8} {n : Int} (h : maskOk v l n = true) (h' : maskOk v' l' n = true) : (maskV v l n == maskV v' l' n && maskB v l n == maskB v' l' n) = withinS v l v' l' n := by
  unfold withinS
  rw [h, h', mask_yesV h, mask_yesV h', mask_yesB h, mask_yesB h']
  rfl
theorem within_no {v v' : Bool} {l l' : List UInt8} {n : Int} (h : ¬ (maskOk v l n = true ∧ maskOk v' l' n = true)) : withinS v l v' l' n = false := by
  unfold withinS
  cases h1 : maskOk v l n <;> cases h2 : maskOk v' l' n <;> simp_all

end Go.Proofs.YtihakjcccbionaaGreatDoor

end
section
/-
  The walks of Of and Bytes: addresses as bytes, there and back, the program's and the document's own.
-/
namespace Go.Proofs.YtihakjcccbionaaGreatDoor
open Go.RowKit
attribute [local go_sem ↓] exec_span exec_put exec_build heap_alloc_new heap_old
attribute [local go_sem] spanQ_ptr spanC_some heap_of_drew rs_arr rs_ad putAt_ptr putOk_ptr oldOk_some built_none World.setRow_alloc_new
set_option maxRecDepth 100000
set_option linter.unusedVariables false

/-- some bytes, and 0 behind them, sixteen in all. -/
def padL (l : List UInt8) : List UInt8 := l ++ List.replicate (16 - l.length) 0
theorem length_padL {l : List UInt8} (h : l.length ≤ 16) : (padL l).length = 16 := by simp [padL]; omega

theorem splice_pad (v : Bool) (l : List UInt8) (h : l.length ≤ 16) : splice (adL v (List.replicate 16 0)) 1 (l.map byteV) = adL v (padL l) := by
  unfold splice adL padL
  rw [List.take_succ_cons, List.take_zero, List.singleton_append, List.map_append, List.length_map, Nat.add_comm 1, List.drop_succ_cons, List.map_replicate, List.drop_replicate, List.map_replicate]

/-- what comes of bytes as an address, and the error. -/
def ofV (l : List UInt8) : Bool := l.length == 16
def ofB (l : List UInt8) : List UInt8 := if l.length = 4 ∨ l.length = 16 then padL l else List.replicate 16 0
def ofE (l : List UInt8) : Int := if l.length = 4 ∨ l.length = 16 then 0 else 3
theorem length_ofB (l : List UInt8) : (ofB l).length = 16 := by
  unfold ofB
  split
  · next h => exact length_padL (by omega)
  · simp

end Go.Proofs.YtihakjcccbionaaGreatDoor

end
section
/-
  The walks of the document's own Of, and of Bytes, the program's and the document's own.
-/
namespace Go.Proofs.YtihakjcccbionaaGreatDoor
open Go.RowKit
attribute [local go_sem ↓] exec_span exec_put exec_build heap_alloc_new heap_old
attribute [local go_sem] spanQ_ptr spanC_some heap_of_drew rs_arr rs_ad putAt_ptr putOk_ptr oldOk_some built_none World.setRow_alloc_new
set_option maxRecDepth 100000
set_option linter.unusedVariables false

theorem padL_step {l : List UInt8} {j : Nat} (hj : j < l.length) (hl : l.length ≤ 16) : (padL (l.take j)).set j l[j] = padL (l.take (j + 1)) := by
  unfold padL
  rw [List.length_take, List.length_take, Nat.min_eq_left (by omega), Nat.min_eq_left (by omega)]
  apply List.ext_getElem
  · simp; omega
  · intro k h1 h2
    rw [List.getElem_set]
    split
    · next e =>
      subst e
      rw [List.getElem_append_left (by simp; omega)]
      simp
    · next e =>
      rcases Nat.lt_or_ge k j with hk | hk
      · rw [List.getElem_append_left (by simp; omega), List.getElem_append_left (by simp; omega)]
        simp
      · rw [List.getElem_append_right (by simp; omega), List.getElem_append_right (by simp; omega)]
        simp


end Go.Proofs.YtihakjcccbionaaGreatDoor

end
section
/-
  The walks of Bytes, the program's and the document's own.
-/
namespace Go.Proofs.YtihakjcccbionaaGreatDoor
open Go.RowKit
attribute [local go_sem ↓] exec_span exec_put exec_build heap_alloc_new heap_old
attribute [local go_sem] spanQ_ptr spanC_some heap_of_drew rs_arr rs_ad putAt_ptr putOk_ptr oldOk_some built_none World.setRow_alloc_new
set_option maxRecDepth 100000
set_option linter.unusedVariables false

/-- an address's bytes, and the error. -/
def byB (v : Bool) (l : List UInt8) : List UInt8 := if rightL v l then l.take (sizeA v) else []
def byE (v : Bool) (l : List UInt8) : Int := if rightL v l then 0 else 1

theorem make_bytes (w : World) (n : Nat) (h : n ≤ 140737488355328) :
    (Instr.makeSlice 28 (.int .i64 (n : Int)) (.int .i64 (n : Int))).run Tryz.prog w = .ok (.slice (some ⟨w.heap.size, 0, none⟩) n n) (w.alloc (.cells (madeCells #[.int .u8 0] n) 5)) := by
  obtain ⟨i, hi, hz, hs, hb⟩ := info_parts info_u8
  have := run_make (P := Tryz.prog) w 28 5 i (.int .u8 0) Tryz.underlying28 hi hz .i64 .i64 (n : Int) (n : Int) (by omega) (by omega) (by rw [hb]; omega) (by omega)
  rw [this, hs]
  simp [Value.cells]

theorem below_row {w w' : World} (h : Below w.heap.size w w') (row : Option Nat) : w.grownBy w' row := ⟨h.os, h.tape, h.output, h.size, fun k hk _ => h.block k hk⟩

set_option maxHeartbeats 4000000 in
theorem refbytes_any (w : World) (X : Array Value) (v : Bool) (l : List UInt8) (h : AdV X v l) :
    Calls Tryz.prog 47 #[.agg X] w fun e w' => (∃ A c, e = .returned (.tuple #[.slice A (byB v l).length c, .int .i64 (byE v l)]) ∧ Byt w' w'.heap.size A (byB v l) ∧ (byB v l).length ≤ c ∧ (A = none → c = 0)) ∧ Below w.heap.size w w' := by
  go_enter Tryz.func47, Tryz.ntmps47
  have hxs := h.size
  have hxr := h.x0
  obtain ⟨W, hW, h1, hz, hb⟩ := one_block w (.cells X 24)
  have hrt := hide (fun W => refright_any W X v l h)
  have hsz := hide (fun W => refsize_any W X v l h)
  have hB := hide hb
  have hlt : Hid (W.heap.size = w.heap.size + 1) := hide hz
  have H1 := hide h1
  clear hz hb
  obtain ⟨R, hR⟩ : ∃ R, R = rightL v l := ⟨_, rfl⟩
  rw [← hR] at hrt
  have HR := hide hR
  clear hR
  cases R
  · have hE := hide (show byE v l = 1 by unfold byE; rw [← HR.out]; rfl)
    have hBB := hide (show byB v l = [] by unfold byB; rw [← HR.out]; rfl)
    go_wp2_with (go_at_call 79; refine (hrt.out _).mono ?_; rintro e w2 ⟨rfl, hb2⟩)
    go_ret2
    refine ⟨⟨none, 0, by rw [hBB.out, hE.out]; rfl, by rw [hBB.out]; exact Byt.nil _ _ _, by rw [hBB.out]; exact Nat.le_refl _, fun _ => rfl⟩, hB.out.trans (hb2.mono (by have := hlt.out; omega))⟩
  · obtain ⟨S, hS⟩ : ∃ S, S = sizeA v := ⟨_, rfl⟩
    have hS16 : S ≤ 16 := by rw [hS]; unfold sizeA; split <;> omega
    have hE := hide (show byE v l = 0 by unfold byE; rw [← HR.out]; rfl)
    have hBB := hide (show byB v l = l.take S by unfold byB; rw [← HR.out, hS]; rfl)
    rw [← hS] at hsz
    clear hS
    have hl := h.len
    go_wp2_with fail
    refine (hrt.out _).mono ?_
    rintro e w2 ⟨rfl, hb2⟩
    have h12 := row_kept hb2 (by have := hlt.out; omega) H1.out
    have hlt2 : Hid (W.heap.size ≤ w2.heap.size) := hide hb2.size
    have HB2 : Hid (Below w.heap.size w w2) := hide (hB.out.trans (hb2.mono (by have := hlt.out; omega)))
    have H12 := hide h12
    have HAT := hide (fun j hj => h.at j hj)
    clear h12 hb2 hrt h1 hW
    dsimp only
    go_wp2
    go_loopw [4, 5] (fun u i wr => ∃ j : Nat, j ≤ S ∧ i = .int .i64 (j : Int) ∧ Hid (OwnB wr w2.heap.size u (l.take j)) ∧ Hid (Below w2.heap.size w2 wr)) (fun _ i _ => S - (intOf i).toNat)
    case atStart => exact ⟨0, by omega, rfl, hide (by rw [List.take_zero]; exact OwnB.nil _ _), hide (Below.refl _ _)⟩
    case round =>
      obtain ⟨j, hj, rfl, hown, hbr⟩ := hrel
      have hXr := row_kept hbr.out (by have := hlt.out; have := hlt2.out; omega) H12.out
      have hwz : Hid (w2.heap.size ≤ wr.heap.size) := hide hbr.out.size
      by_cases hlt3 : j < S
      · have hjl : j < l.length := by omega
        obtain ⟨x, hx⟩ : ∃ x, x = l[j] := ⟨_, rfl⟩
        have hj0 : (0 : Int) ≤ (j : Int) := by omega
        have hj1 : (j : Int) < 16 := by omega
        have HX := hide hx
        have hxb := x.toNat_lt
        clear hx
        go_wp2_with fail
        refine (hsz.out _).mono ?_
        rintro e w4 ⟨rfl, hb4⟩
        have hX4 := row_kept hb4 (by have := hlt.out; have := hlt2.out; have := hwz.out; omega) hXr
        have hc4 : w4.cell? ⟨w.heap.size, 1 + j, none⟩ = some (.int .u8 (x.toNat : Int)) := by rw [cell_of_row w4 _ _ _ _ _ hX4, HX.out]; exact HAT.out j hjl
        have hown4 : OwnB w4 w2.heap.size u4 (l.take j) := World.ownsRow.kept hown.out (below_row hb4 none) (Classical.em _)
        have HO4 := hide hown4
        have HB4 : Hid (Below w2.heap.size w2 w4) := hide (hbr.out.trans (hb4.mono hwz.out))
        clear hown4 hX4 hb4
        dsimp only
        go_wp2_with (at_builtin; refine wpList_app_bytes rfl (.tmp 15) (.tmp 20) rfl w2.heap.size u4 (l.take j) [x] (w4.heap.size + 1) 1 (some ⟨w4.heap.size, 0, none⟩) rfl rfl (by exact HO4.out.alloc _) (by exact Byt.lit w4 [x] _ _ (0, 0) rfl) (fun e => by cases e) (by simp; omega) (by have := HB4.out.size; simp; omega) ?_; intro v5 w5 hown5 hgrow5 hat5)
        go_roundw
        case rel =>
          refine ⟨j + 1, by omega, by go_num, hide ?_, hide ?_⟩
          · rw [List.take_succ_eq_append_getElem hjl, ← HX.out]; exact hown5
          · exact (HB4.out.alloc HB4.out.size _).grown hgrow5 (by have := HB4.out.size; simp; omega) (fun k hk => (World.ownsRow.lt HO4.out k hk).1)
        case measure => simp [intOf]; omega
      · obtain rfl : j = S := by omega
        go_wp2_with fail
        refine (hsz.out _).mono ?_
        rintro e w4 ⟨rfl, hb4⟩
        have hown4 : OwnB w4 w2.heap.size u4 (l.take j) := World.ownsRow.kept hown.out (below_row hb4 none) (Classical.em _)
        have HO4 := hide hown4
        obtain ⟨A, c, hu, hlc, hby, hnil, _⟩ := hown4.shape
        subst hu
        have HBY := hide hby
        have HNIL := hide hnil
        clear hown4 hby hnil
        dsimp only
        go_wp2
        go_ret2
        refine ⟨⟨A, c, by rw [hBB.out, hE.out]; rfl, by rw [hBB.out]; exact HBY.out, by rw [hBB.out]; exact hlc, HNIL.out⟩, HB2.out.trans ((hbr.out.trans (hb4.mono hwz.out)).mono HB2.out.size)⟩
end Go.Proofs.YtihakjcccbionaaGreatDoor

end
section
/-
  The walk of the fixed calls of addr's statements: they answer true.
-/
namespace Go.Proofs.YtihakjcccbionaaGreatDoor
open Go.RowKit
attribute [local go_sem ↓] exec_span exec_put exec_build heap_alloc_new heap_old
attribute [local go_sem] spanQ_ptr spanC_some heap_of_drew rs_arr rs_ad putAt_ptr putOk_ptr oldOk_some built_none World.setRow_alloc_new
set_option maxRecDepth 100000
set_option linter.unusedVariables false

def knL : List UInt8 := [10, 1, 2, 3]
theorem kn_of : ofE knL = 0 ∧ ofV knL = false ∧ ofB knL = [10, 1, 2, 3, 0, 0, 0, 0, 0, 0, 0, 0, 0, 0, 0, 0] := by decide +kernel
def knB : List UInt8 := [10, 1, 2, 3, 0, 0, 0, 0, 0, 0, 0, 0, 0, 0, 0, 0]
def knM : List UInt8 := [10, 0, 0, 0, 0, 0, 0, 0, 0, 0, 0, 0, 0, 0, 0, 0]
theorem kn_mask : maskE false knB 12 = 0 ∧ maskV false knB 12 = false ∧ maskB false knB 12 = knM := by decide +kernel
theorem kn_bytes : byE false knM = 0 ∧ byB false knM = [10, 0, 0, 0] := by decide +kernel
theorem kn_within : withinS false knB false knM 12 = true := by decide +kernel
theorem kn_less : lessA false knM false knB = true := by decide +kernel

end Go.Proofs.YtihakjcccbionaaGreatDoor

end
