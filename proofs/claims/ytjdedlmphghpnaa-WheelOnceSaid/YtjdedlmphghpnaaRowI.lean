/-
  Words for the rows whose argument is a slice of numbers: opened to a list of them.
-/
import Derived.Test.YtjdedlmphghpnaaRow
import Derived.Test.YtjdedlmphghpnaaOr
import Derived.Deep.Slices
namespace Go.Proofs.Ytjdedlmphghpnaa
open Go.ChangeShapes Go.WideShapes Go.ChangeAt Go.RowKit Go.Deep

theorem bytes_in : Try.prog.bytesOf 3 = 8 := by kernel_rfl
theorem cells_in : Try.prog.cellsOf 3 = 1 := by kernel_rfl
theorem trod_in {H : Type} {enc : TypeId × Value → H} {P : Program} {w : World} {base : Nat} {sp : Nat → Bool} {held : Bool} {t : TypeId} {v : Value} {x : DataW H × List MemPlace} {n : Nat} (ht : P.underlying t = some (.int .i64))
    (h : DataW.trod enc P w base sp held n t [v] = some x) : ∃ b, v = .int .i64 b := by
  cases n with
  | zero => simp [DataW.trod] at h
  | succ n =>
    cases v with
    | int k b =>
      simp only [DataW.trod, ht] at h
      by_cases hk : k = .i64
      · subst hk; exact ⟨b, rfl⟩
      · simp [hk] at h
    | _ => simp [DataW.trod, ht] at h
theorem open_ints (K : Nat) {H : Type} {enc : TypeId × Value → H} {W : World} {a0 : Option Addr} {len cap : Nat} {d : DataW H} {p : List MemPlace}
    (h : DataW.Trod enc Try.prog W 0 (fun _ => true) true 110 (.slice a0 len cap) d p)
    (hsz : ∀ elems spare, d = .slice elems spare → (elems.length + spare.length) * Try.prog.bytesOf 3 ≤ K) :
    ∃ l : List Int, len = l.length ∧ l.length ≤ cap ∧ cap * 8 ≤ K ∧ IntS W W.heap.size a0 l ∧ (a0 = none → cap = 0) := by
  obtain ⟨fuel, hf⟩ := h
  rcases open_slice1 Try.underlying110 cells_in hf with ⟨hcs, _⟩ | ⟨x, l, c, m, n, V, D, Pl, hcs, _, hl, hm, hmm, hx, hcell⟩
  · simp [Value.cells] at hcs
    obtain ⟨rfl, rfl, rfl⟩ := hcs
    exact ⟨[], rfl, by simp, by omega, IntS.nil _ _ _, fun _ => rfl⟩
  · simp [Value.cells] at hcs
    obtain ⟨rfl, rfl, rfl⟩ := hcs
    obtain rfl : m = cap := by simpa using hmm
    simp only [Prod.mk.injEq] at hx
    have hs := hsz _ _ hx.1
    rw [bytes_in] at hs
    simp only [List.length_map, List.length_range] at hs
    have each : ∀ i, i < m → ∃ q : Int, W.cell? (x.add i) = some (.int .i64 q) := fun i hi => by
      obtain ⟨e0, t0⟩ := hcell i hi
      obtain ⟨z0, hz0⟩ := trod_in Try.underlying3 t0
      exact ⟨z0, by rw [e0, hz0]⟩
    obtain ⟨q, hq⟩ := choose_lt each
    refine ⟨(List.range len).map q, by simp, by simp; omega, by omega, fun hpos => ?_, (fun e => by cases e)⟩
    simp at hpos
    obtain ⟨b, off, spot⟩ := x
    have h0 := hq 0 (by omega)
    have hspot : spot = none := by
      have := World.cell?_spot h0
      simpa [Addr.add] using this
    subst hspot
    have hlt : b < W.heap.size := by
      have := World.block_lt_of_cell? W _ h0
      rwa [block_of_add] at this
    refine ⟨b, off, rfl, hlt, fun i hi => ?_⟩
    simp at hi
    have h1 := hq i (by omega)
    rw [add_none] at h1
    simp only [List.getElem_map, List.getElem_range]
    exact h1
end Go.Proofs.Ytjdedlmphghpnaa
