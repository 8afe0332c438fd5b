/-
  The walk of the fixed calls of the cursor's statements: they answer true.
-/
import Derived.Test.YtmfebpagjfkclaaRun
namespace Go.Proofs.Ytmfebpagjfkclaa
open Go.RowKit

theorem OwnV.shape {w : World} {base : Nat} {vv : Value} {items : List VItem} (h : OwnV w base vv items) :
    ∃ A c, vv = .slice A items.length c ∧ items.length ≤ c ∧ (0 < items.length → ∃ gg, A = some ⟨gg, 0, none⟩ ∧ base ≤ gg ∧ gg < w.heap.size ∧ ∀ j (hj : j < items.length), w.cell? ⟨gg, j * 2, none⟩ = some (.int .u64 (items[j].N : Int)) ∧ w.cell? ⟨gg, j * 2 + 1, none⟩ = some items[j].v) := by
  rcases h.row.2 with ⟨rfl, h0⟩ | ⟨gg, cap, cur, rfl, hb, hg, hn, hm, hsz, ht⟩
  · exact ⟨none, 0, by rw [h0], by omega, fun hp => by omega⟩
  · refine ⟨some ⟨gg, 0, none⟩, cap, rfl, hn, fun _ => ⟨gg, rfl, hb, (Array.getElem?_eq_some_iff.1 hg).1, fun j hj => ?_⟩⟩
    have hc : ∀ i, i < items.length * 2 → w.cell? ⟨gg, i, none⟩ = (itemCells items)[i]? := fun i hi => World.ownsRow.cellAt (g := gg) (cap := cap) h.row i hi
    have hget : ∀ (its : List VItem) (j : Nat) (hj : j < its.length), (itemCells its)[j * 2]? = some (.int .u64 (its[j].N : Int)) ∧ (itemCells its)[j * 2 + 1]? = some its[j].v := by
      intro its
      induction its with
      | nil => intro j hj; simp at hj
      | cons x t ih =>
        intro j hj
        rcases j with _ | j
        · exact ⟨rfl, rfl⟩
        · have := ih j (by simp at hj; omega)
          rw [itemCells, List.flatMap_cons, ← itemCells]
          rw [show (j + 1) * 2 = j * 2 + 2 from by omega, show j * 2 + 2 + 1 = j * 2 + 1 + 2 from by omega]
          simpa using this
    obtain ⟨h1, h2⟩ := hget items j hj
    exact ⟨(hc _ (by omega)).trans h1, (hc _ (by omega)).trans h2⟩

theorem Ops.lit (w : World) (l : List (Int × Int)) (cs : Array Value) (t : TypeId) (fr : Nat × Nat) (hcs : cs = (l.flatMap fun o => [Value.int .i64 o.1, Value.int .i64 o.2]).toArray) : Ops (w.alloc (.cells cs t fr)) (w.heap.size + 1) (some ⟨w.heap.size, 0, none⟩) l := fun _ =>
  ⟨w.heap.size, 0, rfl, Nat.lt_succ_self _, fun i hi => by
    subst hcs
    have hget : ∀ (its : List (Int × Int)) (j : Nat) (hj : j < its.length), (its.flatMap fun o => [Value.int .i64 o.1, Value.int .i64 o.2])[j * 2]? = some (.int .i64 its[j].1) ∧ (its.flatMap fun o => [Value.int .i64 o.1, Value.int .i64 o.2])[j * 2 + 1]? = some (.int .i64 its[j].2) := by
      intro its
      induction its with
      | nil => intro j hj; simp at hj
      | cons x t ih =>
        intro j hj
        rcases j with _ | j
        · exact ⟨rfl, rfl⟩
        · have := ih j (by simp at hj; omega)
          rw [List.flatMap_cons, show (j + 1) * 2 = j * 2 + 2 from by omega, show j * 2 + 2 + 1 = j * 2 + 1 + 2 from by omega]
          simpa using this
    obtain ⟨h1, h2⟩ := hget l i hi
    have hb := heap_alloc_new w (.cells (l.flatMap fun o => [Value.int .i64 o.1, Value.int .i64 o.2]).toArray t fr)
    rw [cell_of_row _ w.heap.size (0 + i * 2) _ t fr hb, cell_of_row _ w.heap.size (0 + i * 2 + 1) _ t fr hb]
    simp only [Nat.zero_add, List.getElem?_toArray]
    exact ⟨h1, h2⟩⟩

def fixedOps : List (Int × Int) := [(0, 2), (2, 1), (3, 1)]
theorem fixed_one : runS [1, 2, 3, 0] fixedOps 0 = ([(258, []), (0, []), (0, [])], 4, 0) := by decide +kernel
theorem fixed_two : runS [1] fixedOps 0 = ([], 0, 10) := by decide +kernel

theorem Ops.more {w w' : World} {B B' : Nat} {A : Option Addr} {l : List (Int × Int)} (h : Ops w B A l) (hB : B ≤ B') (hb : Below B w w') : Ops w' B' A l := h.keep hB (fun _ hp => hb.cell hp)

theorem run_fixed1 (w : World) : Calls Try.prog 16 #[.slice (some ⟨w.heap.size + 1, 0, none⟩) 4 4, .slice (some ⟨w.heap.size, 0, none⟩) 3 3]
    ((w.alloc (.cells #[.int .i64 0, .int .i64 2, .int .i64 2, .int .i64 1, .int .i64 3, .int .i64 1] 67)).alloc (.cells #[.int .u8 1, .int .u8 2, .int .u8 3, .int .u8 0] 5)) fun e w' =>
    ∃ gg c, e = .returned (.tuple #[.slice (some ⟨gg, 0, none⟩) 3 c, .int .i64 4, .int .i64 0]) ∧ w'.cell? ⟨gg, 0, none⟩ = some (.int .u64 258) ∧ gg < w'.heap.size ∧ Below w.heap.size w w' ∧ Ops w' w'.heap.size (some ⟨w.heap.size, 0, none⟩) fixedOps := by
  have ho := Ops.lit w fixedOps #[.int .i64 0, .int .i64 2, .int .i64 2, .int .i64 1, .int .i64 3, .int .i64 1] 67 (0, 0) rfl
  have hz : (w.alloc (.cells #[.int .i64 0, .int .i64 2, .int .i64 2, .int .i64 1, .int .i64 3, .int .i64 1] 67)).heap.size = w.heap.size + 1 := by simp
  have hbl : Below w.heap.size w (w.alloc (.cells #[.int .i64 0, .int .i64 2, .int .i64 2, .int .i64 1, .int .i64 3, .int .i64 1] 67)) := (Below.refl _ _).alloc (Nat.le_refl _) _
  generalize w.alloc (.cells #[.int .i64 0, .int .i64 2, .int .i64 2, .int .i64 1, .int .i64 3, .int .i64 1] 67) = w1 at ho hz hbl ⊢
  have hy := Byt.lit w1 [1, 2, 3, 0] #[.int .u8 1, .int .u8 2, .int .u8 3, .int .u8 0] 5 (0, 0) rfl
  have hb2 : Below w1.heap.size w1 (w1.alloc (.cells #[.int .u8 1, .int .u8 2, .int .u8 3, .int .u8 0] 5)) := (Below.refl _ _).alloc (Nat.le_refl _) _
  have ho2 : Ops (w1.alloc (.cells #[.int .u8 1, .int .u8 2, .int .u8 3, .int .u8 0] 5)) (w1.heap.size + 1) (some ⟨w.heap.size, 0, none⟩) fixedOps := ho.more (by omega) (hb2.mono (by omega))
  have hz2 : (w1.alloc (.cells #[.int .u8 1, .int .u8 2, .int .u8 3, .int .u8 0] 5)).heap.size = w1.heap.size + 1 := by simp
  rw [hz] at hy ho2 hz2
  generalize w1.alloc (.cells #[.int .u8 1, .int .u8 2, .int .u8 3, .int .u8 0] 5) = w2 at hy ho2 hz2 hb2 ⊢
  have hrun := run_any w2 (some ⟨w.heap.size + 1, 0, none⟩) (some ⟨w.heap.size, 0, none⟩) [1, 2, 3, 0] 4 3 fixedOps (by decide) (by show 4 ≤ _; omega) (hy.more (by omega)) (ho2.keep (by omega) (fun _ _ => rfl)) (by show 3 ≤ _; omega)
  rw [fixed_one] at hrun
  refine hrun.mono fun e w' ⟨vv, items, he, hown, hm, hb⟩ => ?_
  have hil : items.length = 3 := by have := congrArg List.length hm; simpa using this
  obtain ⟨Av, cv, rfl, _, hcells⟩ := hown.shape
  obtain ⟨gg, rfl, _, hgl, hc⟩ := hcells (by omega)
  have hN : items[0].N = 258 := by
    have := congrArg (fun x => x[0]?) hm
    simp [List.getElem?_eq_getElem (show 0 < items.length by omega)] at this
    exact this.1
  refine ⟨gg, cv, by rw [he, hil]; rfl, ?_, hgl, hbl.trans ((hb2.mono (by omega)).trans (hb.mono (by omega))), ho2.keep (by have := hb.size; omega) (fun p hp => hb.cell (by omega))⟩
  have := (hc 0 (by omega)).1
  rw [hN] at this
  exact this

theorem run_fixed2 (w : World) (A : Option Addr) (ho : Ops w w.heap.size A fixedOps) : Calls Try.prog 16 #[.slice (some ⟨w.heap.size, 0, none⟩) 1 1, .slice A 3 3] (w.alloc (.cells #[.int .u8 1] 5)) fun e w' =>
    ∃ A' c, e = .returned (.tuple #[.slice A' 0 c, .int .i64 0, .int .i64 10]) ∧ Below w.heap.size w w' := by
  have hy := Byt.lit w [1] #[.int .u8 1] 5 (0, 0) rfl
  have hb2 : Below w.heap.size w (w.alloc (.cells #[.int .u8 1] 5)) := (Below.refl _ _).alloc (Nat.le_refl _) _
  have ho2 : Ops (w.alloc (.cells #[.int .u8 1] 5)) (w.heap.size + 1) A fixedOps := ho.more (by omega) hb2
  have hz2 : (w.alloc (.cells #[.int .u8 1] 5)).heap.size = w.heap.size + 1 := by simp
  generalize w.alloc (.cells #[.int .u8 1] 5) = w2 at hy ho2 hz2 hb2 ⊢
  have hrun := run_any w2 (some ⟨w.heap.size, 0, none⟩) A [1] 1 3 fixedOps (by decide) (by show 1 ≤ _; omega) (hy.more (by omega)) (ho2.keep (by omega) (fun _ _ => rfl)) (by show 3 ≤ _; omega)
  rw [fixed_two] at hrun
  refine hrun.mono fun e w' ⟨vv, items, he, hown, hm, hb⟩ => ?_
  have hil : items.length = 0 := by have := congrArg List.length hm; simpa using this
  obtain ⟨Av, cv, rfl, _, _⟩ := hown.shape
  exact ⟨Av, cv, by rw [he, hil]; rfl, hb2.trans (hb.mono (by omega))⟩

set_option maxHeartbeats 2000000 in
theorem knownC_any (w : World) : Calls Try.prog 23 #[] w fun e w' => e = .returned (.bool true) ∧ Below w.heap.size w w' := by
  have R1 := hide (run_fixed1 w)
  go_enter Try.func23, Try.ntmps23
  go_wp2_with fail
  refine R1.out.mono ?_
  rintro e w1 ⟨gg, c, rfl, hcell, hgl, hb1, ho⟩
  have R2 := hide (run_fixed2 w1 _ ho)
  clear ho
  go_wp2_with fail
  refine R2.out.mono ?_
  rintro e w2 ⟨A', c', rfl, hb2⟩
  have hc2 : w2.cell? ⟨gg, 0, none⟩ = some (.int .u64 258) := (hb2.cell (by exact hgl)).trans hcell
  have hb := hb1.trans (hb2.mono hb1.size)
  clear hcell hb1 hb2
  go_wp2
  go_ret
  exact ⟨rfl, hb⟩
end Go.Proofs.Ytmfebpagjfkclaa
