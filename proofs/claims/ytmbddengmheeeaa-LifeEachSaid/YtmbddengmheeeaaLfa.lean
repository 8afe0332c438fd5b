/-
  Words of what is known of a backend: its cells, its votes. The program's and the document's own have the same cells.
-/
import Derived.Test.YtmbddengmheeeaaAdq
import Derived.Test.YtmbddengmheeeaaWl
import Derived.Test.YtmbddengmheeeaaOr
namespace Go.Proofs.Ytmbddengmheeeaa
open Go.RowKit
set_option maxRecDepth 100000
set_option linter.unusedVariables false

/-- where a backend is. -/
structure Spc where
  st : Int
  by_ : Int
  av : Bool
  ab : List UInt8
  wt : Nat
def spL (s : Spc) : List Value := .int .i64 s.st :: .int .i64 s.by_ :: (adL s.av s.ab ++ [.float .f64 s.wt])
structure SpV (X : Array Value) (s : Spc) : Prop where
  eq : X = (spL s).toArray
  la : s.ab.length = 16
  wf : s.wt < 2 ^ 64
/-- what is known, its votes at va. -/
structure Rcd where
  g : Int
  l : Int
  sp : Spc
  va : Option Addr
  vn : Nat
  vc : Nat
  dn : Int
def rcL (r : Rcd) : List Value := .int .i64 r.g :: .int .i64 r.l :: (spL r.sp ++ [.slice r.va r.vn r.vc, .int .i64 r.dn])
structure RcV (X : Array Value) (r : Rcd) : Prop where
  eq : X = (rcL r).toArray
  la : r.sp.ab.length = 16
  wf : r.sp.wt < 2 ^ 64
theorem len_adL (v : Bool) {l : List UInt8} (h : l.length = 16) : (adL v l).length = 17 := by simp [adL, h]
theorem len_spL {s : Spc} (h : s.ab.length = 16) : (spL s).length = 20 := by simp [spL, len_adL s.av h]
theorem len_rcL {r : Rcd} (h : r.sp.ab.length = 16) : (rcL r).length = 24 := by simp [rcL, len_spL h]
theorem SpV.size {X : Array Value} {s : Spc} (h : SpV X s) : X.size = 20 := by rw [h.eq]; simp [len_spL h.la]
theorem RcV.size {X : Array Value} {r : Rcd} (h : RcV X r) : X.size = 24 := by rw [h.eq]; simp [len_rcL h.la]
theorem SpV.x0 {X : Array Value} {s : Spc} (h : SpV X s) : X.extract 0 20 = X := by rw [← h.size]; simp
theorem RcV.x0 {X : Array Value} {r : Rcd} (h : RcV X r) : X.extract 0 24 = X := by rw [← h.size]; simp
theorem spL_one (s : Spc) : ∀ v ∈ spL s, v.oneCell' = true := by
  intro v hv
  simp only [spL, adL, List.mem_cons, List.mem_append, List.mem_map, List.not_mem_nil, or_false] at hv
  rcases hv with rfl | rfl | (rfl | ⟨_, _, rfl⟩) | rfl <;> rfl
theorem rcL_one (r : Rcd) : ∀ v ∈ rcL r, v.oneCell' = true := by
  intro v hv
  simp only [rcL, List.mem_cons, List.mem_append, List.not_mem_nil, or_false] at hv
  rcases hv with rfl | rfl | hv | rfl | rfl
  · rfl
  · rfl
  · exact spL_one _ v hv
  · rfl
  · rfl
theorem SpV.one {X : Array Value} {s : Spc} (h : SpV X s) : allOne X = true := by
  rw [h.eq]; unfold allOne; rw [List.all_toArray, List.all_eq_true]; exact spL_one s
theorem RcV.one {X : Array Value} {r : Rcd} (h : RcV X r) : allOne X = true := by
  rw [h.eq]; unfold allOne; rw [List.all_toArray, List.all_eq_true]; exact rcL_one r
/-- its parts. -/
theorem SpV.addr {X : Array Value} {s : Spc} (h : SpV X s) : X.extract 2 19 = (adL s.av s.ab).toArray := by
  rw [h.eq, List.extract_toArray]
  congr 1
  simp only [spL, List.extract_eq_take_drop, List.drop_succ_cons, List.drop_zero]
  rw [List.take_append_of_le_length (by rw [len_adL _ h.la]; decide), List.take_of_length_le (by rw [len_adL _ h.la]; decide)]
theorem RcV.spec {X : Array Value} {r : Rcd} (h : RcV X r) : X.extract 2 22 = (spL r.sp).toArray := by
  rw [h.eq, List.extract_toArray]
  congr 1
  simp only [rcL, List.extract_eq_take_drop, List.drop_succ_cons, List.drop_zero]
  rw [List.take_append_of_le_length (by rw [len_spL h.la]; decide), List.take_of_length_le (by rw [len_spL h.la]; decide)]
theorem RcV.sp {X : Array Value} {r : Rcd} (h : RcV X r) : SpV (spL r.sp).toArray r.sp := ⟨rfl, h.la, h.wf⟩
/-- what a walk asks of its block. -/
theorem SpV.cells {X : Array Value} {s : Spc} (h : SpV X s) {w : World} {g : Nat} {ty : TypeId} (hg : w.heap[g]? = some (.cells X ty (0, 0))) :
    w.cell? ⟨g, 0, none⟩ = some (.int .i64 s.st) ∧ w.cell? ⟨g, 1, none⟩ = some (.int .i64 s.by_) ∧ w.cell? ⟨g, 19, none⟩ = some (.float .f64 s.wt) := by
  have e := h.eq
  have hl := len_adL s.av h.la
  refine ⟨(cell_of_row w g 0 X ty (0, 0) hg).trans (by rw [e]; rfl), (cell_of_row w g 1 X ty (0, 0) hg).trans (by rw [e]; rfl), (cell_of_row w g 19 X ty (0, 0) hg).trans ?_⟩
  rw [e, List.getElem?_toArray]
  show (spL s)[19]? = _
  unfold spL
  rw [List.getElem?_cons_succ, List.getElem?_cons_succ, List.getElem?_append_right (by omega), hl]; rfl
theorem RcV.cells {X : Array Value} {r : Rcd} (h : RcV X r) {w : World} {g : Nat} {ty : TypeId} (hg : w.heap[g]? = some (.cells X ty (0, 0))) :
    w.cell? ⟨g, 0, none⟩ = some (.int .i64 r.g) ∧ w.cell? ⟨g, 1, none⟩ = some (.int .i64 r.l) ∧ w.cell? ⟨g, 22, none⟩ = some (.slice r.va r.vn r.vc) ∧ w.cell? ⟨g, 23, none⟩ = some (.int .i64 r.dn) := by
  have e := h.eq
  have hl := len_spL h.la
  refine ⟨(cell_of_row w g 0 X ty (0, 0) hg).trans (by rw [e]; rfl), (cell_of_row w g 1 X ty (0, 0) hg).trans (by rw [e]; rfl), (cell_of_row w g 22 X ty (0, 0) hg).trans ?_, (cell_of_row w g 23 X ty (0, 0) hg).trans ?_⟩
  · rw [e, List.getElem?_toArray]
    unfold rcL
    rw [List.getElem?_cons_succ, List.getElem?_cons_succ, List.getElem?_append_right (by omega), hl]; rfl
  · rw [e, List.getElem?_toArray]
    unfold rcL
    rw [List.getElem?_cons_succ, List.getElem?_cons_succ, List.getElem?_append_right (by omega), hl]; rfl
/-- votes, as the slice that begins at A reads. -/
def VoS (w : World) (B : Nat) (A : Option Addr) (l : List (Int × Bool)) : Prop :=
  0 < l.length → ∃ b off, A = some ⟨b, off, none⟩ ∧ b < B ∧ ∀ i (h : i < l.length), w.cell? ⟨b, off + i * 2, none⟩ = some (.int .i64 l[i].1) ∧ w.cell? ⟨b, off + i * 2 + 1, none⟩ = some (.bool l[i].2)
theorem VoS.nil (w : World) (B : Nat) (A : Option Addr) : VoS w B A [] := fun h => absurd h (by simp)
theorem VoS.keep {w w' : World} {B : Nat} {A : Option Addr} {l : List (Int × Bool)} (h : VoS w B A l) (hk : ∀ p : Addr, p.block < B → w'.cell? p = w.cell? p) : VoS w' B A l := fun hl => by
  obtain ⟨b, off, e, hb, hc⟩ := h hl
  exact ⟨b, off, e, hb, fun i hi => ⟨(hk _ hb).trans (hc i hi).1, (hk _ hb).trans (hc i hi).2⟩⟩
theorem VoS.below {w w' : World} {B B' : Nat} {A : Option Addr} {l : List (Int × Bool)} (h : VoS w B A l) (hb : Below B' w w') (hB : B ≤ B') : VoS w' B A l := h.keep fun _ hp => hb.cell (Nat.lt_of_lt_of_le hp hB)
theorem VoS.more {w : World} {B B' : Nat} {A : Option Addr} {l : List (Int × Bool)} (h : VoS w B A l) (hB : B ≤ B') : VoS w B' A l := fun hl => by
  obtain ⟨b, off, e, hb, hc⟩ := h hl
  exact ⟨b, off, e, by omega, hc⟩
/-- votes as cells. -/
def voC (l : List (Int × Bool)) : List Value := l.flatMap fun v => [.int .i64 v.1, .bool v.2]
theorem voC_snoc (l : List (Int × Bool)) (v : Int × Bool) : voC (l ++ [v]) = voC l ++ [.int .i64 v.1, .bool v.2] := by simp [voC]
theorem voC_len (l : List (Int × Bool)) : (voC l).length = l.length * 2 := by
  induction l with
  | nil => rfl
  | cons a l ih => rw [voC, List.flatMap_cons, ← voC, List.length_append, ih]; simp; omega
theorem voC_get : ∀ (l : List (Int × Bool)) (j : Nat) (h : j < l.length), (voC l)[j * 2]? = some (.int .i64 l[j].1) ∧ (voC l)[j * 2 + 1]? = some (.bool l[j].2)
  | [], j, h => by simp at h
  | x :: t, 0, _ => ⟨rfl, rfl⟩
  | x :: t, j + 1, h => by
    have := voC_get t j (by simp at h; omega)
    rw [voC, List.flatMap_cons, ← voC, show (j + 1) * 2 = j * 2 + 2 from by omega, show j * 2 + 2 + 1 = j * 2 + 1 + 2 from by omega]
    simpa using this
theorem voC_one (l : List (Int × Bool)) : ∀ v ∈ voC l, v.oneCell' = true := by
  intro v hv
  obtain ⟨x, _, hx⟩ := List.mem_flatMap.1 hv
  simp only [List.mem_cons, List.not_mem_nil, or_false] at hx
  rcases hx with rfl | rfl <;> rfl
theorem row_votes {w : World} {base : Nat} {e : TypeId} {v : Value} {l : List (Int × Bool)} (h : w.ownsRow base e 2 v l.length (voC l)) : ∃ A c, v = .slice A l.length c ∧ l.length ≤ c ∧ VoS w w.heap.size A l ∧ (A = none → c = 0) := by
  rcases h.2 with ⟨rfl, h0⟩ | ⟨gg, cap, cur, rfl, hb, hg, hn, hm, hsz, ht⟩
  · exact ⟨none, 0, by rw [h0], by omega, fun hp => by omega, fun _ => rfl⟩
  · refine ⟨some ⟨gg, 0, none⟩, cap, rfl, hn, fun _ => ⟨gg, 0, rfl, (Array.getElem?_eq_some_iff.1 hg).1, fun i hi => ?_⟩, fun e => by cases e⟩
    obtain ⟨h1, h2⟩ := voC_get l i hi
    have hc : ∀ i, i < l.length * 2 → w.cell? ⟨gg, i, none⟩ = (voC l)[i]? := fun i hi => World.ownsRow.cellAt (g := gg) (cap := cap) h i hi
    rw [Nat.zero_add]
    exact ⟨(hc _ (by omega)).trans h1, (hc _ (by omega)).trans h2⟩
end Go.Proofs.Ytmbddengmheeeaa
