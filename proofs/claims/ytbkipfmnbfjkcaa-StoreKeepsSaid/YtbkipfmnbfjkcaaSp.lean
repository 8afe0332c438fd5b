/-
  Loads, stores and builds of whole structs and arrays in one step of the walk, in whatever region. Nothing here speaks of one type.
-/
import Derived.Test.YtbkipfmnbfjkcaaBase
import Derived.Deep.MidRow
import Derived.Deep.RegionHeld3
import Derived.Laws.CopyOwn
namespace Go.Proofs.Ytbkipfmnbfjkcaa
open Go.RowKit

/-- how many cells a struct or an array has. -/
def rowSize (P : Program) (t : TypeId) : Option Nat :=
  match P.underlying t with
  | some (.struct _) | some (.array _ _) => (P.info? t).map (·.size)
  | _ => none
/-- as many cells of a block from one on, if they are there. -/
def spanC (n : Option Nat) (ob : Option Obj) (o : Nat) : Option (Array Value) :=
  match n, ob with
  | some n, some (.cells cs _ _) => if o + n ≤ cs.size then some (cs.extract o (o + n)) else none
  | _, _ => none
def spanQ (P : Program) (t : TypeId) (w : World) (v : Value) : Option (Array Value) :=
  match v with
  | .pointer (some ⟨b, o, none⟩) => spanC (rowSize P t) (w.heap[b]?) o
  | _ => none

theorem spanQ_ptr (P : Program) (t : TypeId) (w : World) (b o : Nat) : spanQ P t w (.pointer (some ⟨b, o, none⟩)) = spanC (rowSize P t) (w.heap[b]?) o := rfl
theorem spanC_some (n o : Nat) (cs : Array Value) (t : TypeId) (fr : Nat × Nat) : spanC (some n) (some (.cells cs t fr)) o = if o + n ≤ cs.size then some (cs.extract o (o + n)) else none := rfl
theorem heap_of_drew (w : World) : w.drew.heap = w.heap := rfl
theorem heap_of_drewN (w : World) (n : Nat) : (w.drewN n).heap = w.heap := rfl

theorem run_span {P : Program} {t : TypeId} {w : World} {v : Value} {cs : Array Value} (h : spanQ P t w v = some cs) : (Instr.loadAt t v).run P w = .ok (.agg cs) w := by
  unfold spanQ at h
  split at h
  · next b o =>
    unfold spanC at h
    split at h
    · next n X ty fr hn hX =>
      split at h
      · next hle =>
        injection h with h
        subst h
        have hn' := hn
        unfold rowSize at hn
        split at hn
        · next fs hu =>
          have := run_loadAt_mid (P := P) w b o t (X.extract o (o + n)).toList _ (World.rangeAt_of_block hX o n) hu rfl (by rw [hn]; simp; omega)
          rw [Array.toArray_toList] at this
          exact this
        · next k e hu =>
          have := run_loadAt_mid (P := P) w b o t (X.extract o (o + n)).toList _ (World.rangeAt_of_block hX o n) hu rfl (by rw [hn]; simp; omega)
          rw [Array.toArray_toList] at this
          exact this
        · cases hn
      · cases h
    · cases h
  · cases h

/-- the operation, as the walk's simp meets it first. -/
theorem exec_span {P : Program} {ρ : Operand → Value} {dst : Option Tmp} {t ty : TypeId} {x : Operand} {pos : String} {after : Array Edge} {g : Option (Nat × Bool)} {w : World} (h : (spanQ P t w (ρ x)).isSome = true) :
    (execOp ρ ⟨dst, .load t x, ty, pos, after, g⟩).run P w = .ok (.value (.agg ((spanQ P t w (ρ x)).getD #[]))) w := by
  obtain ⟨cs, hcs⟩ := Option.isSome_iff_exists.1 h
  have := run_span hcs
  unfold execOp
  simp only [Sem.run_bind, this, Result.andThen_ok, Sem.run_pure, hcs, Option.getD_some]

/-! stores of whole rows, and structs that are built, likewise -/
def putOk (P : Program) (t : TypeId) (w : World) (p v : Value) : Bool :=
  match p, v with
  | .pointer (some ⟨b, 0, none⟩), .agg cs =>
    (match w.heap[b]? with
    | some (.cells old _ (0, 0)) => old.size == cs.size
    | _ => false) && (rowSize P t == some cs.size) && cs.all (·.oneCell')
  | _, _ => false
def putAt (w : World) (p v : Value) : World :=
  match p, v with
  | .pointer (some ⟨b, _, _⟩), .agg cs => w.setRow b cs
  | _, _ => w
theorem exec_put {P : Program} {ρ : Operand → Value} {dst : Option Tmp} {t ty : TypeId} {x y : Operand} {pos : String} {after : Array Edge} {g : Option (Nat × Bool)} {w : World} (h : putOk P t w (ρ x) (ρ y) = true) :
    (execOp ρ ⟨dst, .store t x y, ty, pos, after, g⟩).run P w = .ok .skip (putAt w (ρ x) (ρ y)) := by
  unfold putOk at h
  split at h
  · next b cs hp hv =>
    simp only [Bool.and_eq_true] at h
    obtain ⟨⟨h1, h2⟩, h3⟩ := h
    split at h1
    · next old t' hg =>
      have hi : (P.info? t).map (·.size) = some cs.size := by
        have := beq_iff_eq.1 h2
        unfold rowSize at this
        split at this
        · exact this
        · exact this
        · cases this
      unfold execOp
      simp only [Instr.storeAt, Instr.sureAddr, Sem.run_bind, Sem.run_pure, Result.andThen_ok, hp, hv, run_storeVar_row w b t' t old cs hg hi (beq_iff_eq.1 h1) h3]
      rfl
    · cases h1
  · cases h
theorem putAt_ptr (w : World) (b o : Nat) (sp : Option Nat) (cs : Array Value) : putAt w (.pointer (some ⟨b, o, sp⟩)) (.agg cs) = w.setRow b cs := rfl
def oldOk (n : Nat) : Option Obj → Bool
  | some (.cells old _ (0, 0)) => old.size == n
  | _ => false
def allOne (cs : Array Value) : Bool := cs.all (·.oneCell')
theorem putOk_ptr (P : Program) (t : TypeId) (w : World) (b : Nat) (cs : Array Value) : putOk P t w (.pointer (some ⟨b, 0, none⟩)) (.agg cs) = (oldOk cs.size (w.heap[b]?) && (rowSize P t == some cs.size) && allOne cs) := rfl
theorem oldOk_some (n : Nat) (old : Array Value) (t : TypeId) : oldOk n (some (.cells old t (0, 0))) = (old.size == n) := rfl
theorem exec_build {P : Program} {ρ : Operand → Value} {dst : Option Tmp} {t ty : TypeId} {parts : Array (Nat × Operand)} {pos : String} {after : Array Edge} {g : Option (Nat × Bool)} {w : World} (h : (P.built t (parts.map fun (i, x) => (i, ρ x)).toList).isSome = true) :
    (execOp ρ ⟨dst, .build t parts, ty, pos, after, g⟩).run P w = .ok (.value (.agg ((P.built t (parts.map fun (i, x) => (i, ρ x)).toList).getD #[]))) w := by
  obtain ⟨cs, hcs⟩ := Option.isSome_iff_exists.1 h
  have := run_build w t _ cs hcs
  unfold execOp
  simp only [Sem.run_bind, this, Result.andThen_ok, Sem.run_pure, hcs, Option.getD_some]

/-- one number is less than another one, said so that nothing looks into it. -/
def LtN (a b : Nat) : Prop := a < b
theorem heap_old {w : World} {i : Nat} (o : Obj) (h : LtN i w.heap.size) : (w.alloc o).heap[i]? = w.heap[i]? := heap_alloc_old w o h

theorem results_cell_tmp {P : Program} {fn : Func} {p q : Tmp} {ty : TypeId} (h : fn.results = #[.cell p ty, .tmp q]) (tmps : Array Value) (w : World) (g : Nat) (t : TypeId) (cs : Array Value) (fr : Nat × Nat) (d : TypeDesc)
    (hp : tmps.getD p undef = .pointer (some ⟨g, 0, none⟩)) (hg : w.heap[g]? = some (.cells cs t fr))
    (hu : P.underlying ty = some d) (hd : (match d with | .struct _ | .array _ _ => true | _ => false) = true) (hi : (P.info? ty).map (·.size) = some cs.size) :
    (results fn tmps).run P w = .ok (.tuple #[.agg cs, tmps.getD q undef]) w := by
  have hp' : tmps[p]?.getD undef = .pointer (some ⟨g, 0, none⟩) := by simpa using hp
  simp [results, h, hp', asAddr, run_loadVar_row w g t ty cs fr d hg hu hd hi]

theorem below_undrew' {B : Nat} {w w' : World} (h : Below B w.drew w') : Below B w w' := ⟨h.os, h.tape, h.output, h.size, h.block⟩
end Go.Proofs.Ytbkipfmnbfjkcaa
