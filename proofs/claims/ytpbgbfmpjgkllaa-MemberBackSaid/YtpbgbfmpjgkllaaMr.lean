/-
  How each one is seen, rising: the iterator all, and Live, which ranges over it.
-/
import Derived.Test.YtpbgbfmpjgkllaaMo
import Derived.RangeFuncNested
import Derived.RangeFuncBound
import Derived.RangeFuncCalls
import Derived.RangeFuncLeaves
import Derived.RangeFuncBox
import Derived.Shelf.Abstract
import Derived.Shelf.RegionOpen
import Derived.WalkKit
import Derived.OwnWalkIn
import Derived.TacticsInMore
import Derived.LoopNIn
import Derived.LoopIn
import Derived.Maps.AppendAt
namespace Go.Proofs.Ytpbgbfmpjgkllaa
open Go.RowKit Go.Shelf
set_option maxRecDepth 100000
set_option linter.unusedVariables false
set_option linter.unusedSimpArgs false
attribute [local go_sem] Oper.semAt_some

/-- what lay below, and one block more, is as it was. -/
def KeepB (n₀ Bn : Nat) (A B : World) : Prop := Below n₀ A B ∧ B.heap[Bn]? = A.heap[Bn]?
theorem keepB_t {n₀ Bn : Nat} {A B C : World} (h : KeepB n₀ Bn A B) (k : KeepB n₀ Bn B C) : KeepB n₀ Bn A C := ⟨h.1.trans k.1, k.2.trans h.2⟩
theorem keepB_b {n₀ Bn : Nat} {w : World} (hn : n₀ ≤ w.heap.size) (hb : Bn < w.heap.size) (W : World) (l : Nat) (o o' : Obj) (hl : w.heap.size ≤ l) (h : W.heap[l]? = some o) (h1 : o.isCells = false) (h2 : o.isWalk = false) : KeepB n₀ Bn W (W.putObj l o') :=
  ⟨belowK_b hn W l o o' hl h h1 h2, World.putObj_heap_other (by omega)⟩
/-- those that come first. -/
def uptoV (l : List (Int × Int)) (j : Nat) : List (Nat × (Int × Int)) := (List.range j).map fun i => (i, getV l (i : Int))
theorem uptoV_succ (l : List (Int × Int)) (j : Nat) : uptoV l (j + 1) = uptoV l j ++ [(j, getV l (j : Int))] := by simp [uptoV, List.range_succ]
theorem uptoV_len (l : List (Int × Int)) (j : Nat) : (uptoV l j).length = j := by simp [uptoV]
theorem ViewS.keepB {n₀ Bn : Nat} {A B : World} {g b : Nat} {me : Int} {l : List (Int × Int)} (h : ViewS A g b me l) (hk : KeepB n₀ Bn A B) (hg : g < n₀) (hb : b < n₀) : ViewS B g b me l :=
  ⟨(hk.1.block g hg).trans h.row, h.map.of_heap (hk.1.block b hb)⟩
theorem keepB_cell {n₀ Bn : Nat} {A B : World} (hk : KeepB n₀ Bn A B) {o : Nat} {v : Value} (h : A.cell? ⟨Bn, o, none⟩ = some v) : B.cell? ⟨Bn, o, none⟩ = some v := by
  unfold World.cell? at h ⊢
  rw [hk.2]; exact h
set_option maxHeartbeats 2000000 in
theorem all1V_in (F : Fence) (n : Nat) (hF : F.fn 58) (hro : F.round = none) (hn : 1 ≤ n) (lp Bn n₀ g b : Nat) (me : Int) (l : List (Int × Int)) (J Jx : List (Nat × (Int × Int)) → World → Prop)
    (hY : ∀ pre x W, J pre W → pre.length < l.length → YieldAt F (n - 1) Try.prog lp #[.int .i64 (x.1 : Int), .agg #[.int .i64 x.2.1, .int .i64 x.2.2]] W fun e W' =>
      (e = .returned (.bool true) ∧ J (pre ++ [x]) W' ∧ KeepB n₀ Bn W W') ∨ (e = .returned (.bool false) ∧ Jx (pre ++ [x]) W'))
    (W : World) (hBn : W.cell? ⟨Bn, 0, none⟩ = some (.pointer (some ⟨g, 0, none⟩))) (hv : ViewS W g b me l) (hg : g < n₀) (hb : b < n₀) (hl : l.length ≤ 4611686018427387904) (h0 : J [] W) :
    CallsIn F n Try.prog 58 #[.func (.yield lp) #[] #[], .pointer (some ⟨Bn, 0, none⟩)] W fun e W' => (∃ v, e = .returned v) ∧
      ((∃ ys, ys = uptoV l l.length ∧ J ys W') ∨ (∃ pre, True ∧ Jx pre W')) := by
  have hlen := view_len hv 3
  obtain ⟨-, c1⟩ := hv.cells
  have HV := hide hv
  obtain ⟨N, hN⟩ : ∃ N, N = l.length := ⟨_, rfl⟩
  rw [← hN] at hlen hY hl ⊢
  have HN := hide hN
  clear hv hN
  refine callsIn_of_wp Try.func58 rfl hF ?_ hro
  simp only [Try.ntmps58, List.size_toArray, List.length_cons, List.length_nil, Nat.reduceAdd, Nat.reduceSub, Array.replicate_succ, Array.replicate_zero, List.push_toArray, List.append_toArray, List.nil_append, List.cons_append]
  gi_wp2
  gi_loopw [11] (fun p wr => ∃ j : Nat, j ≤ N ∧ p = .int .i64 (j : Int) ∧ J (uptoV l j) wr ∧ Hid (wr.cell? ⟨Bn, 0, none⟩ = some (.pointer (some ⟨g, 0, none⟩)) ∧ ViewS wr g b me l)) (fun p _ => N - (intOf p).toNat)
  case atStart => exact ⟨0, by omega, rfl, h0, hide ⟨hBn, HV.out⟩⟩
  case round =>
    obtain ⟨j, hj, rfl, hJs, hI⟩ := hrel
    by_cases hlt : j < N
    · have hbn := hI.out.1
      obtain ⟨-, d1⟩ := hI.out.2.cells
      have hlk := view_look hI.out.2 (j : Int)
      obtain ⟨fn, tmps, assign, body, hy, hR⟩ := hY (uptoV l j) (j, getV l (j : Int)) wr hJs (by rw [uptoV_len]; exact hlt)
      have HU := hide (uptoV_succ l j)
      rw [← HU.out] at hR
      obtain ⟨⟨s, c⟩, hp⟩ : ∃ p, p = getV l (j : Int) := ⟨_, rfl⟩
      rw [← hp] at hlk hy
      unfold infV infA at hlk
      dsimp only at hy
      have hji : (j : Int) < (N : Int) := by omega
      clear hp hBn c1 hlen hY h0
      gi_wp2
      refine hR.mono ?_
      rintro e W3 (⟨rfl, hJ3, hk3⟩ | ⟨rfl, hJx3⟩)
      · have HI3 : Hid (W3.cell? ⟨Bn, 0, none⟩ = some (.pointer (some ⟨g, 0, none⟩)) ∧ ViewS W3 g b me l) := hide ⟨keepB_cell hk3 hbn, hI.out.2.keepB hk3 hg hb⟩
        clear hbn d1 hlk hy hI
        gi_wp2
        go_roundw
        case rel => exact ⟨j + 1, by omega, by go_num, hJ3, HI3⟩
        case measure => simp [intOf]; omega
      · gi_wp2
        refine bodyPost_ret (results_none rfl _ _ _) rfl ?_
        exact ⟨⟨_, rfl⟩, .inr ⟨_, trivial, hJx3⟩⟩
    · obtain rfl : j = N := by omega
      gi_wp2
      go_end0
      exact ⟨⟨_, rfl⟩, .inl ⟨_, rfl, hJs⟩⟩
theorem all_in (F : Fence) (n : Nat) (hF : F.fn 46) (hro : F.round = none) (p0 : Option Addr) (w : World) :
    CallsIn F n Try.prog 46 #[.pointer p0] w fun e w' => e = .returned (.func (.func 58) #[] #[.pointer (some ⟨w.heap.size, 0, none⟩)]) ∧ w' = w.alloc (.cells #[.pointer p0] 33) := by
  refine callsIn_of_wp Try.func46 rfl hF ?_ hro
  simp only [Try.ntmps46, List.size_toArray, List.length_cons, List.length_nil, Nat.reduceAdd, Nat.reduceSub, Array.replicate_succ, Array.replicate_zero, List.push_toArray, List.append_toArray, List.nil_append, List.cons_append]
  gi_wp2
  go_ret
  exact ⟨rfl, rfl⟩
theorem allV_stops (F : Fence) (n : Nat) (hF : F.fn 58) (hro : F.round = none) (hn : 1 ≤ n) (Bn n₀ g b : Nat) (me : Int) (l : List (Int × Int)) (w : World) (hBn : Bn < w.heap.size) (hn₀ : n₀ ≤ w.heap.size)
    (hc : w.cell? ⟨Bn, 0, none⟩ = some (.pointer (some ⟨g, 0, none⟩))) (hv : ViewS w g b me l) (hg : g < n₀) (hb : b < n₀) (hl : l.length ≤ 4611686018427387904) :
    SeqStopsK F n Try.prog 58 #[.pointer (some ⟨Bn, 0, none⟩)] (fun x : Nat × (Int × Int) => #[Value.int .i64 (x.1 : Int), .agg #[.int .i64 x.2.1, .int .i64 x.2.2]]) (KeepB n₀ Bn) (fun ys => ys = uptoV l l.length) (fun _ => True) l.length w := fun lp J Jx W hW _ _ hY h0 =>
  all1V_in F n hF hro hn lp Bn n₀ g b me l J Jx hY W ((hW.cell (p := ⟨Bn, 0, none⟩) hBn).trans hc) (hv.below hW (Nat.le_refl _)) hg hb hl h0
end Go.Proofs.Ytpbgbfmpjgkllaa
