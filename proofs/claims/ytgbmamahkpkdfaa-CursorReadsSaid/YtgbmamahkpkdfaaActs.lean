/-
  Words for the rows whose argument is a slice of calls: opened to a list of pairs of numbers.
-/
import Derived.Test.YtgbmamahkpkdfaaRow
import Derived.Test.YtgbmamahkpkdfaaRunC
import Derived.Deep.SlicePairs
namespace Go.Proofs.Ytgbmamahkpkdfaa
open Go.ChangeShapes Go.WideShapes Go.ChangeAt Go.RowKit Go.Deep

theorem bytes_act : Try.prog.bytesOf 51 = 16 := by kernel_rfl
theorem cells_act : Try.prog.cellsOf 51 = 2 := by kernel_rfl
theorem cells_int' : Try.prog.cellsOf 3 = 1 := by kernel_rfl
theorem le_acts {n : Nat} (h : n * Try.prog.bytesOf 51 ≤ 140737488351232) : n * Try.prog.bytesOf 5 ≤ 8796093022208 := by rw [bytes_act] at h; rw [bytes_u8]; omega

theorem open_acts (K : Nat) {H : Type} {enc : TypeId × Value → H} {W : World} {a0 : Option Addr} {len cap : Nat} {d : DataW H} {p : List MemPlace}
    (h : DataW.Trod enc Try.prog W 0 (fun _ => true) true 43 (.slice a0 len cap) d p)
    (hsz : ∀ elems spare, d = .slice elems spare → (elems.length + spare.length) * Try.prog.bytesOf 5 ≤ K) :
    ∃ l : List (Int × Int), len = l.length ∧ l.length ≤ cap ∧ cap ≤ K ∧ Ops W W.heap.size a0 l := by
  obtain ⟨fuel, hf⟩ := h
  rcases open_slice_pairs Try.underlying43 Try.underlying51 cells_act rfl rfl cells_int' cells_int' hf with ⟨hcs, _⟩ | ⟨x, l, c, m, n, V0, V1, D0, D1, P0, P1, hcs, _, hl, hm, hmm, hx, hcell⟩
  · simp [Value.cells] at hcs
    obtain ⟨rfl, rfl, rfl⟩ := hcs
    exact ⟨[], rfl, by simp, by omega, fun hp => absurd hp (by simp)⟩
  · simp [Value.cells] at hcs
    obtain ⟨rfl, rfl, rfl⟩ := hcs
    obtain rfl : m = cap := by simpa using hmm
    simp only [Prod.mk.injEq] at hx
    have hs := hsz _ _ hx.1
    rw [bytes_u8] at hs
    simp only [List.length_map, List.length_range] at hs
    have each : ∀ i, i < m → ∃ q : Int × Int, W.cell? (x.add (i * 2)) = some (.int .i64 q.1) ∧ W.cell? (x.add (i * 2 + 1)) = some (.int .i64 q.2) := fun i hi => by
      obtain ⟨e0, e1, t0, t1⟩ := hcell i hi
      obtain ⟨z0, hz0, _, _⟩ := DataW.trod_int Try.underlying3 t0
      obtain ⟨z1, hz1, _, _⟩ := DataW.trod_int Try.underlying3 t1
      simp at hz0 hz1
      exact ⟨(z0, z1), by rw [e0, hz0], by rw [e1, hz1]⟩
    obtain ⟨q, hq⟩ := choose_lt each
    refine ⟨(List.range len).map q, by simp, by simp; omega, by omega, fun hpos => ?_⟩
    simp at hpos
    obtain ⟨b, off, spot⟩ := x
    obtain ⟨h0, _⟩ := hq 0 (by omega)
    have hspot : spot = none := by
      have := World.cell?_spot h0
      simpa [Addr.add] using this
    subst hspot
    have hlt : b < W.heap.size := by
      have := World.block_lt_of_cell? W _ h0
      rwa [block_of_add] at this
    refine ⟨b, off, rfl, hlt, fun i hi => ?_⟩
    simp at hi
    obtain ⟨h1, h2⟩ := hq i (by omega)
    rw [add_none] at h1 h2
    simp only [List.getElem_map, List.getElem_range]
    exact ⟨h1, by rw [Nat.add_assoc]; exact h2⟩
end Go.Proofs.Ytgbmamahkpkdfaa
