/-
  Words for addresses: the cells of one, a block that holds some cells, stores of whole rows.
-/
import Derived.Test.YtbkipfmnbfjkcaaSp
import Derived.Test.YtbkipfmnbfjkcaaAdm
import Derived.Deep.MidRow
import Derived.Deep.RegionHeld3
import Derived.Lib.Bytealg
import Derived.Stop.BytesEq
import Derived.Laws.CopyOwn
namespace Go.Proofs.Ytbkipfmnbfjkcaa
open Go.RowKit


/-- a whole row is stored: the new world is a letter. -/
theorem wpList_store_let {P : Program} {ops : Array Oper} {rest : List Oper} {o : Oper} {a : Act} {w : World} {Q : Exit → Act → World → Prop} (hgd : o.guard = none) (ty : TypeId) (x y : Operand) (ho : o.op = .store ty x y)
    (g : Nat) (cells : Array Value) (hx : a.eval x = .pointer (some ⟨g, 0, none⟩)) (hy : a.eval y = .agg cells)
    (t : TypeId) (old : Array Value) (hg : w.heap[g]? = some (.cells old t (0, 0))) (hi : (P.info? ty).map (·.size) = some cells.size)
    (hold : old.size = cells.size) (h1 : cells.all (·.oneCell') = true)
    (h : ∀ w', w'.heap[g]? = some (.cells cells t (0, 0)) → (∀ k, k ≠ g → w'.heap[k]? = w.heap[k]?) → w'.heap.size = w.heap.size → Below g w w' → wpList P ops Q rest (a.put o.dst undef) w') : wpList P ops Q (o :: rest) a w :=
  wpList_store_row hgd ty x y ho g cells hx hy t old hg hi hold h1 (h _ (setRow_heap w g _ _ t _ hg) (fun k hk => setRow_other w g k _ hk) (by simp [World.setRow]) (below_setRow (Below.refl _ _) (Nat.le_refl _) _))

/-- a part of a block is loaded whole, in an operation that a guard lets by. -/
theorem wpList_load_w {P : Program} {ops : Array Oper} {rest : List Oper} {op : Oper} {a : Act} {w : World} {Q : Exit → Act → World → Prop} (hw : Region.wanted op (yielded ops a.tmps) = true) (ty : TypeId) (x : Operand) (ho : op.op = .load ty x)
    (b o : Nat) (hx : a.eval x = .pointer (some ⟨b, o, none⟩)) (cs : List Value) (d : TypeDesc) (hc : w.rangeAt b o cs)
    (hu : P.underlying ty = some d) (hd : d.isRow = true) (hi : (P.info? ty).map (·.size) = some cs.length)
    (h : wpList P ops Q rest (a.put op.dst (.agg cs.toArray)) w) : wpList P ops Q (op :: rest) a w :=
  wpList_step fun K hK => by rw [if_pos hw]; exact wp_load_mid ty x ho b o hx cs d hc hu hd hi (hK _ _ h)
theorem wpList_row_w {P : Program} {ops : Array Oper} {rest : List Oper} {op : Oper} {a : Act} {w : World} {Q : Exit → Act → World → Prop} (hw : Region.wanted op (yielded ops a.tmps) = true) (ty : TypeId) (x : Operand) (ho : op.op = .load ty x)
    (b : Nat) (hx : a.eval x = .pointer (some ⟨b, 0, none⟩)) (t : TypeId) (cs : Array Value) (fr : Nat × Nat) (d : TypeDesc) (hg : w.heap[b]? = some (.cells cs t fr))
    (hu : P.underlying ty = some d) (hd : (match d with | .struct _ | .array _ _ => true | _ => false) = true) (hi : (P.info? ty).map (·.size) = some cs.size)
    (h : wpList P ops Q rest (a.put op.dst (.agg cs)) w) : wpList P ops Q (op :: rest) a w :=
  wpList_step fun K hK => by rw [if_pos hw]; exact wp_load_row ty x ho b hx t cs fr d hg hu hd hi (hK _ _ h)
/-- the same as one step of a region that draws its order. -/
theorem step_load_w {P : Program} {ops : Array Oper} {op : Oper} {a : Act} {w : World} {K : Act → World → Prop} {Q : Exit → Act → World → Prop} {E : Prop} (hw : Region.wanted op (yielded ops a.tmps) = true) (ty : TypeId) (x : Operand) (ho : op.op = .load ty x)
    (b o : Nat) (hx : a.eval x = .pointer (some ⟨b, o, none⟩)) (cs : List Value) (d : TypeDesc) (hc : w.rangeAt b o cs)
    (hu : P.underlying ty = some d) (hd : d.isRow = true) (hi : (P.info? ty).map (·.size) = some cs.length)
    (h : K (a.put op.dst (.agg cs.toArray)) w) : if Region.wanted op (yielded ops a.tmps) = true then Oper.wp P op a w K Q else E := by
  rw [if_pos hw]; exact wp_load_mid ty x ho b o hx cs d hc hu hd hi h
theorem step_row_w {P : Program} {ops : Array Oper} {op : Oper} {a : Act} {w : World} {K : Act → World → Prop} {Q : Exit → Act → World → Prop} {E : Prop} (hw : Region.wanted op (yielded ops a.tmps) = true) (ty : TypeId) (x : Operand) (ho : op.op = .load ty x)
    (b : Nat) (hx : a.eval x = .pointer (some ⟨b, 0, none⟩)) (t : TypeId) (cs : Array Value) (fr : Nat × Nat) (d : TypeDesc) (hg : w.heap[b]? = some (.cells cs t fr))
    (hu : P.underlying ty = some d) (hd : (match d with | .struct _ | .array _ _ => true | _ => false) = true) (hi : (P.info? ty).map (·.size) = some cs.size)
    (h : K (a.put op.dst (.agg cs)) w) : if Region.wanted op (yielded ops a.tmps) = true then Oper.wp P op a w K Q else E := by
  rw [if_pos hw]; exact wp_load_row ty x ho b hx t cs fr d hg hu hd hi h

/-- the cells of an address: its kind, its sixteen bytes. -/
def adL (v : Bool) (l : List UInt8) : List Value := .bool v :: l.map byteV
structure AdV (X : Array Value) (v : Bool) (l : List UInt8) : Prop where
  eq : X = (adL v l).toArray
  len : l.length = 16
  c0 : X[0]? = some (.bool v)
theorem AdV.mk' {v : Bool} {l : List UInt8} (h : l.length = 16) : AdV (adL v l).toArray v l := ⟨rfl, h, rfl⟩
theorem AdV.size {X : Array Value} {v : Bool} {l : List UInt8} (h : AdV X v l) : X.size = 17 := by rw [h.eq]; simp [adL, h.len]
theorem AdV.one {X : Array Value} {v : Bool} {l : List UInt8} (h : AdV X v l) : X.all (·.oneCell') = true := by
  rw [h.eq]
  refine all_oneCell_toArray fun u hu => ?_
  rcases List.mem_cons.1 hu with rfl | hu
  · rfl
  · exact byteV_one l u hu
theorem AdV.at {X : Array Value} {v : Bool} {l : List UInt8} (h : AdV X v l) (j : Nat) (hj : j < l.length) : X[1 + j]? = some (.int .u8 (l[j].toNat : Int)) := by
  rw [h.eq, Nat.add_comm]
  simp [adL, byteV, hj]
theorem AdV.arr {X : Array Value} {v : Bool} {l : List UInt8} (h : AdV X v l) {w : World} {g : Nat} {t : TypeId} (hg : w.heap[g]? = some (.cells X t (0, 0))) : w.rangeAt g 1 (l.map byteV) := fun j u hj => by
  obtain ⟨hjl, hju⟩ := List.getElem?_eq_some_iff.1 hj
  have hjl' : j < l.length := by simpa using hjl
  rw [cell_of_row w g (1 + j) X t (0, 0) hg, h.at j hjl', ← hju]
  simp [byteV]
theorem AdV.kind {X : Array Value} {v : Bool} {l : List UInt8} (h : AdV X v l) {w : World} {g : Nat} {t : TypeId} (hg : w.heap[g]? = some (.cells X t (0, 0))) : w.cell? ⟨g, 0, none⟩ = some (.bool v) := by
  rw [cell_of_row w g 0 X t (0, 0) hg]; exact h.c0
theorem arr_size {l : List UInt8} (h : l.length = 16) : (l.map byteV).toArray.size = 16 := by simp [h]
theorem arr_one (l : List UInt8) : (l.map byteV).toArray.all (·.oneCell') = true := all_oneCell_toArray (byteV_one l)
theorem info_arr : (Try.prog.info? 59).map (·.size) = some 16 := by kernel_rfl
theorem info_ad : (Try.prog.info? 61).map (·.size) = some 17 := by kernel_rfl

theorem one_block (w : World) (a : Obj) : ∃ W, w.alloc a = W ∧ W.heap[w.heap.size]? = some a ∧ W.heap.size = w.heap.size + 1 ∧ Below w.heap.size w W :=
  ⟨_, rfl, heap_alloc_new w a, by simp, (Below.refl _ _).alloc (Nat.le_refl _) _⟩
theorem two_blocks (w : World) (a b : Obj) : ∃ W, (w.alloc a).alloc b = W ∧ W.heap[w.heap.size]? = some a ∧ W.heap[w.heap.size + 1]? = some b ∧ W.heap.size = w.heap.size + 2 ∧ Below w.heap.size w W :=
  ⟨_, rfl, heap_alloc2_old w a b, heap_alloc2_new w a b, by simp, ((Below.refl _ _).alloc (Nat.le_refl _) _).alloc (by simp) _⟩
theorem three_blocks (w : World) (a b c : Obj) : ∃ W, ((w.alloc a).alloc b).alloc c = W ∧ W.heap[w.heap.size]? = some a ∧ W.heap[w.heap.size + 1]? = some b ∧ W.heap[w.heap.size + 1 + 1]? = some c ∧ W.heap.size = w.heap.size + 3 ∧ Below w.heap.size w W :=
  ⟨_, rfl, by rw [heap_alloc_old _ _ (by simp; omega), heap_alloc2_old], by rw [heap_alloc_old _ _ (by simp), heap_alloc2_new], by have := heap_alloc_new ((w.alloc a).alloc b) c; simpa using this, by simp, (((Below.refl _ _).alloc (Nat.le_refl _) _).alloc (by simp) _).alloc (by simp; omega) _⟩

def zer16 : List Value := List.replicate 16 (.int .u8 0)
theorem zer16_ok : zer16.toArray = #[Value.int IntKind.u8 0, Value.int IntKind.u8 0, Value.int IntKind.u8 0, Value.int IntKind.u8 0, Value.int IntKind.u8 0, Value.int IntKind.u8 0, Value.int IntKind.u8 0, Value.int IntKind.u8 0, Value.int IntKind.u8 0, Value.int IntKind.u8 0, Value.int IntKind.u8 0, Value.int IntKind.u8 0, Value.int IntKind.u8 0, Value.int IntKind.u8 0, Value.int IntKind.u8 0, Value.int IntKind.u8 0] := rfl

theorem andNot_table : ∀ (r : Fin 8) (x : Fin 256), bits .andNot .u8 (x.val : Int) (255 / 2 ^ r.val) = ((x.val / 2 ^ (8 - r.val) * 2 ^ (8 - r.val) : Nat) : Int) := by decide +kernel
theorem andNot_tb (x : UInt8) (r : Nat) (hr : r < 8) : bits .andNot .u8 (x.toNat : Int) (255 / 2 ^ r) = ((tb x r).toNat : Int) := by
  have := andNot_table ⟨r, hr⟩ ⟨x.toNat, x.toNat_lt⟩
  rw [tb_toNat]
  exact this
end Go.Proofs.Ytbkipfmnbfjkcaa
