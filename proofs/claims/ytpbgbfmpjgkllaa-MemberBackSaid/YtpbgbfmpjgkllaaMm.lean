/-
  Words of a view: how each one is seen; the functions that only read.
-/
import Derived.Test.YtpbgbfmpjgkllaaMp
import Derived.Test.YtpbgbfmpjgkllaaQc
namespace Go.Proofs.Ytpbgbfmpjgkllaa
open Go.RowKit
set_option maxRecDepth 100000
set_option linter.unusedVariables false
set_option linter.unusedSimpArgs false
attribute [local go_sem ↓] exec_span exec_put exec_build heap_alloc_new heap_old
attribute [local go_sem] spanQ_ptr spanC_some heap_of_drew heap_of_drewN putAt_ptr putOk_ptr oldOk_some

/-- a value handed back, all else as it was. -/
def RetV (w : World) (v : Value) (e : Ending) (w' : World) : Prop := e = .returned v ∧ Below w.heap.size w w'
/-- how one is seen. -/
def infA (p : Int × Int) : Array Value := #[.int .i64 p.1, .int .i64 p.2]
def infV (p : Int × Int) : Value := .agg (infA p)
def seenL (l : List (Int × Int)) : List (Int × Value) := seqL infV 0 l
def hasV (l : List (Int × Int)) (k : Int) : Bool := decide (0 ≤ k ∧ k < (l.length : Int))
def getV (l : List (Int × Int)) (k : Int) : Int × Int := if 0 ≤ k then l.getD k.toNat (0, 0) else (0, 0)
theorem look_has (l : List (Int × Int)) (k : Int) : (lookK (seenL l) k).isSome = hasV l k := by
  unfold seenL hasV
  rw [look_seq]
  by_cases h : 0 ≤ k
  · rw [if_pos h]
    by_cases h2 : k.toNat < l.length
    · rw [List.getElem?_eq_getElem h2, decide_eq_true ⟨h, by omega⟩]; rfl
    · rw [List.getElem?_eq_none (by omega), decide_eq_false (by omega)]; rfl
  · rw [if_neg h, decide_eq_false (by omega)]; rfl
theorem look_get (l : List (Int × Int)) (k : Int) : (lookK (seenL l) k).getD (infV (0, 0)) = infV (getV l k) := by
  unfold seenL getV
  rw [look_seq]
  by_cases h : 0 ≤ k
  · rw [if_pos h, if_pos h, List.getD_eq_getElem?_getD]
    cases l[k.toNat]? <;> rfl
  · rw [if_neg h, if_neg h]; rfl
/-- a view in the memory. -/
structure ViewS (w : World) (g b : Nat) (me : Int) (l : List (Int × Int)) : Prop where
  row : w.heap[g]? = some (.cells #[.int .i64 me, .map (some b)] 75 (0, 0))
  map : MapS w b (seenL l)
theorem ViewS.lt {w : World} {g b : Nat} {me : Int} {l : List (Int × Int)} (h : ViewS w g b me l) : g < w.heap.size := (Array.getElem?_eq_some_iff.1 h.row).1
theorem ViewS.ne {w : World} {g b : Nat} {me : Int} {l : List (Int × Int)} (h : ViewS w g b me l) : g ≠ b := fun e => by
  obtain ⟨es, c, hb, _⟩ := h.map
  have := h.row
  rw [e, hb] at this
  cases this
theorem ViewS.of_heap {w w' : World} {g b : Nat} {me : Int} {l : List (Int × Int)} (h : ViewS w g b me l) (hk : ∀ i, i < w.heap.size → w'.heap[i]? = w.heap[i]?) : ViewS w' g b me l :=
  ⟨(hk g h.lt).trans h.row, h.map.of_heap (hk b h.map.lt)⟩
theorem ViewS.below {w w' : World} {B g b : Nat} {me : Int} {l : List (Int × Int)} (h : ViewS w g b me l) (hb : Below B w w') (hB : w.heap.size ≤ B) : ViewS w' g b me l := h.of_heap fun i hi => hb.block i (by omega)
theorem ViewS.alloc {w : World} {g b : Nat} {me : Int} {l : List (Int × Int)} (h : ViewS w g b me l) (o : Obj) : ViewS (w.alloc o) g b me l := h.of_heap fun i hi => heap_alloc_old w o hi
theorem ViewS.cells {w : World} {g b : Nat} {me : Int} {l : List (Int × Int)} (h : ViewS w g b me l) : w.cell? ⟨g, 0, none⟩ = some (.int .i64 me) ∧ w.cell? ⟨g, 1, none⟩ = some (.map (some b)) :=
  ⟨(cell_of_row w g 0 _ _ (0, 0) h.row).trans rfl, (cell_of_row w g 1 _ _ (0, 0) h.row).trans rfl⟩
theorem zero_inf (w : World) : (zeroValue 24).run Try.prog w = .ok (infV (0, 0)) w := by kernel_rfl
theorem view_look {w : World} {g b : Nat} {me : Int} {l : List (Int × Int)} (h : ViewS w g b me l) (k : Int) : (Instr.lookup 73 (.map (some b)) (.int .i64 k) false).run Try.prog w = .ok (infV (getV l k)) w := by
  have := h.map.look (P := Try.prog) Try.underlying73 Try.underlying3 (zero_inf w) k false
  rw [this, look_get]; rfl
theorem view_lookOk {w : World} {g b : Nat} {me : Int} {l : List (Int × Int)} (h : ViewS w g b me l) (k : Int) : (Instr.lookup 73 (.map (some b)) (.int .i64 k) true).run Try.prog w = .ok (.tuple #[infV (getV l k), .bool (hasV l k)]) w := by
  have := h.map.look (P := Try.prog) Try.underlying73 Try.underlying3 (zero_inf w) k true
  rw [this, look_get, look_has]; rfl
theorem view_len {w : World} {g b : Nat} {me : Int} {l : List (Int × Int)} (h : ViewS w g b me l) (ty : TypeId) : (Builtin.len_ #[73] ty #[.map (some b)]).run Try.prog w = .ok (.int .i64 (l.length : Int)) w := by
  obtain ⟨es, c, hb, hr, -⟩ := h.map
  have := run_lenM (P := Try.prog) Try.underlying73 hb hr ty
  rw [this, seenL, seq_len]
/-- a store of how one is seen. -/
theorem view_store {w : World} {g b : Nat} {me : Int} {l : List (Int × Int)} (h : ViewS w g b me l) {k : Int} (hk : hasV l k = true) (p : Int × Int) :
    ∃ o, (Instr.mapUpdate 73 (.map (some b)) (.int .i64 k) (infV p)).run Try.prog w = .ok () (w.putObj b o) ∧ ViewS (w.putObj b o) g b me (l.set k.toNat p) := by
  obtain ⟨h0, h1⟩ := of_decide_eq_true hk
  obtain ⟨o, e, hm⟩ := h.map.store (P := Try.prog) (t := 73) Try.underlying73 Try.underlying3 k (infV p)
  refine ⟨o, e, (World.putObj_heap_other h.ne).trans h.row, ?_⟩
  have e2 : k = ((k.toNat : Nat) : Int) := by omega
  have := put_seq infV k.toNat p 0 l (Nat.zero_le _) (by omega)
  unfold seenL at hm ⊢
  rw [e2, this, Nat.sub_zero] at hm
  exact hm
theorem view_push {w : World} {g b : Nat} {me : Int} {l : List (Int × Int)} (h : ViewS w g b me l) (p : Int × Int) :
    ∃ o, (Instr.mapUpdate 73 (.map (some b)) (.int .i64 (l.length : Int)) (infV p)).run Try.prog w = .ok () (w.putObj b o) ∧ ViewS (w.putObj b o) g b me (l ++ [p]) := by
  obtain ⟨o, e, hm⟩ := h.map.store (P := Try.prog) (t := 73) Try.underlying73 Try.underlying3 (l.length : Int) (infV p)
  refine ⟨o, e, (World.putObj_heap_other h.ne).trans h.row, ?_⟩
  have := put_seq_end infV p 0 l
  rw [Nat.zero_add] at this
  unfold seenL at hm ⊢
  rw [this] at hm
  exact hm
theorem info_inf : (Try.prog.info? 24).map (·.size) = some 2 := by kernel_rfl
theorem rs_inf : rowSize Try.prog 24 = some 2 := by kernel_rfl
theorem rs_view : rowSize Try.prog 75 = some 2 := by kernel_rfl
attribute [local go_sem] rs_inf rs_view
/-- which one is newer. -/
def newerI (a b : Int × Int) : Bool := decide (a.2 > b.2) || (a.2 == b.2 && decide (a.1 > b.1))
def rightI (a : Int × Int) : Bool := decide (a.1 ≥ 0) && (decide (a.1 ≤ 2) && (decide (a.2 ≥ 0) && decide (a.2 ≤ 1099511627776)))
set_option maxHeartbeats 1000000 in
theorem newerI_any (w : World) (a b : Int × Int) : Calls Try.prog 10 #[infV a, infV b] w (RetV w (.bool (newerI a b))) := by
  obtain ⟨s, i⟩ := a
  obtain ⟨t, j⟩ := b
  have hF : Hid (∀ w' r, Below w.heap.size w w' → r = newerI (s, i) (t, j) → RetV w (.bool (newerI (s, i) (t, j))) (.returned (.bool r)) w') := hide fun w' r hb hr => ⟨by rw [hr], hb⟩
  have HE : Hid (newerI (s, i) (t, j) = (decide (i > j) || (i == j && decide (s > t)))) := hide rfl
  generalize newerI (s, i) (t, j) = R at hF HE ⊢
  have hB : Hid (Below w.heap.size w ((w.alloc (.cells #[.int .i64 s, .int .i64 i] 24)).alloc (.cells #[.int .i64 t, .int .i64 j] 24))) := hide (((Below.refl _ _).alloc (Nat.le_refl _) _).alloc (by simp) _)
  unfold infV infA
  go_enter Try.func10, Try.ntmps10
  obtain ⟨q1, h1⟩ : ∃ q, q = decide (i > j) := ⟨_, rfl⟩
  obtain ⟨q2, h2⟩ : ∃ q, q = (i == j) := ⟨_, rfl⟩
  obtain ⟨q3, h3⟩ : ∃ q, q = decide (s > t) := ⟨_, rfl⟩
  rw [← h1, ← h2, ← h3] at HE
  have g1 := h1.symm
  have g2 := h2.symm
  have g3 := h3.symm
  clear h1 h2 h3
  cases q1
  · cases q2
    · have hR : Hid (false = R) := hide HE.out.symm
      go_wp2
      go_ret
      exact hF.out _ _ hB.out hR.out
    · have hR : Hid (q3 = R) := hide (by rw [HE.out]; rfl)
      go_wp2
      go_ret
      exact hF.out _ _ hB.out hR.out
  · have hR : Hid (true = R) := hide (by rw [HE.out]; rfl)
    go_wp2
    go_ret
    exact hF.out _ _ hB.out hR.out
end Go.Proofs.Ytpbgbfmpjgkllaa
