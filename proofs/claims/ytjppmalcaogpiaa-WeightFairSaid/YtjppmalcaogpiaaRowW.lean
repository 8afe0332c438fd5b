/-
  Words for the rows whose argument is a slice of floats: opened to a list of their words.
-/
import Derived.Test.YtjppmalcaogpiaaRow
import Derived.Test.YtjppmalcaogpiaaWk
import Derived.Deep.Slices
namespace Go.Proofs.Ytjppmalcaogpiaa
open Go.ChangeShapes Go.WideShapes Go.ChangeAt Go.RowKit Go.Deep

theorem bytes_fl : Try.prog.bytesOf 22 = 8 := by kernel_rfl
theorem cells_fl : Try.prog.cellsOf 22 = 1 := by kernel_rfl
theorem wf_lt {b : Nat} (h : (Lit.float .f64 b).wf = true) : b < 2 ^ 64 := by simpa [Lit.wf] using h

theorem trod_fl {H : Type} {enc : TypeId × Value → H} {P : Program} {w : World} {base : Nat} {sp : Nat → Bool} {held : Bool} {t : TypeId} {v : Value} {x : DataW H × List MemPlace} {n : Nat} (ht : P.underlying t = some (.float .f64))
    (h : DataW.trod enc P w base sp held n t [v] = some x) : ∃ b, v = .float .f64 b ∧ b < 2 ^ 64 := by
  cases n with
  | zero => simp [DataW.trod] at h
  | succ n =>
    cases v with
    | float k b =>
      simp only [DataW.trod, ht] at h
      by_cases hk : k = .f64
      · subst hk
        by_cases hw : (Lit.float .f64 b).wf = true
        · exact ⟨b, rfl, wf_lt hw⟩
        · simp [hw] at h
      · simp [hk] at h
    | _ => simp [DataW.trod, ht] at h

theorem open_fls (K : Nat) {H : Type} {enc : TypeId × Value → H} {W : World} {a0 : Option Addr} {len cap : Nat} {d : DataW H} {p : List MemPlace}
    (h : DataW.Trod enc Try.prog W 0 (fun _ => true) true 28 (.slice a0 len cap) d p)
    (hsz : ∀ elems spare, d = .slice elems spare → (elems.length + spare.length) * Try.prog.bytesOf 22 ≤ K) :
    ∃ l : List Nat, len = l.length ∧ l.length ≤ cap ∧ cap * 8 ≤ K ∧ FlS W W.heap.size a0 l ∧ (a0 = none → cap = 0) := by
  obtain ⟨fuel, hf⟩ := h
  rcases open_slice1 Try.underlying28 cells_fl hf with ⟨hcs, _⟩ | ⟨x, l, c, m, n, V, D, Pl, hcs, _, hl, hm, hmm, hx, hcell⟩
  · simp [Value.cells] at hcs
    obtain ⟨rfl, rfl, rfl⟩ := hcs
    exact ⟨[], rfl, by simp, by omega, FlS.nil _ _ _, fun _ => rfl⟩
  · simp [Value.cells] at hcs
    obtain ⟨rfl, rfl, rfl⟩ := hcs
    obtain rfl : m = cap := by simpa using hmm
    simp only [Prod.mk.injEq] at hx
    have hs := hsz _ _ hx.1
    rw [bytes_fl] at hs
    simp only [List.length_map, List.length_range] at hs
    have each : ∀ i, i < m → ∃ q : Nat, W.cell? (x.add i) = some (.float .f64 q) ∧ q < 2 ^ 64 := fun i hi => by
      obtain ⟨e0, t0⟩ := hcell i hi
      obtain ⟨z0, hz0, hlt⟩ := trod_fl Try.underlying22 t0
      exact ⟨z0, by rw [e0, hz0], hlt⟩
    obtain ⟨q, hq⟩ := choose_lt each
    refine ⟨(List.range len).map q, by simp, by simp; omega, by omega, ⟨fun y hy => ?_, fun hpos => ?_⟩, (fun e => by cases e)⟩
    · obtain ⟨i, hi, rfl⟩ := List.mem_map.1 hy
      exact (hq i (by have := List.mem_range.1 hi; omega)).2
    · simp at hpos
      obtain ⟨b, off, spot⟩ := x
      obtain ⟨h0, _⟩ := hq 0 (by omega)
      have hspot : spot = none := by
        have := World.cell?_spot h0
        simpa [Addr.add] using this
      subst hspot
      have hlt : b < W.heap.size := by
        have := World.block_lt_of_cell? W _ h0
        rwa [block_of_add] at this
      refine ⟨b, off, rfl, hlt, fun i hi => ?_⟩
      simp at hi
      obtain ⟨h1, _⟩ := hq i (by omega)
      rw [add_none] at h1
      simp only [List.getElem_map, List.getElem_range]
      exact h1
end Go.Proofs.Ytjppmalcaogpiaa
