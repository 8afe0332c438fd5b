/-
  Words for the row whose argument is a slice of packets of a flow, as the document's own has them.
-/
import Derived.Test.YtbkipfmnbfjkcaaRowV
import Derived.Test.YtbkipfmnbfjkcaaVk
import Derived.Test.YtbkipfmnbfjkcaaVj
import Derived.Deep.SlicePairs
namespace Go.Proofs.Ytbkipfmnbfjkcaa
open Go.ChangeShapes Go.WideShapes Go.ChangeAt Go.RowKit Go.Deep
set_option linter.unusedVariables false
set_option maxRecDepth 100000

theorem bytes_pktV : Try.prog.bytesOf 45 = 16 := by kernel_rfl
theorem cells_pktV : Try.prog.cellsOf 45 = 2 := by kernel_rfl
theorem le_pkts {n : Nat} (h : n * Try.prog.bytesOf 45 ≤ 140737488351232) : n * Try.prog.bytesOf 5 ≤ 8796093022208 := by rw [bytes_pktV] at h; rw [bytes_u8]; omega
theorem fields_pktV : ∃ f0 f1 : Field, Try.prog.underlying 45 = some (.struct #[f0, f1]) ∧ (f0.type = 3 ∧ f0.offset = 0) ∧ (f1.type = 2 ∧ f1.offset = 1) := ⟨_, _, Try.underlying45, ⟨rfl, rfl⟩, ⟨rfl, rfl⟩⟩
theorem trod_pktV {H : Type} {enc : TypeId × Value → H} {W : World} {base : Nat} {spare : Nat → Bool} {held : Bool} {fuel : Nat} {cs : List Value} {x : DataW H × List MemPlace} (hsz : cs.length = 2) (h : DataW.trod enc Try.prog W base spare held fuel 45 cs = some x) :
    ∃ q : Int × Int, cs = [.int .i64 q.1, .int .i64 q.2] ∧ q.2 ≤ 9223372036854775807 := by
  obtain ⟨f0, f1, hu, ⟨t0, o0⟩, ⟨t1, o1⟩⟩ := fields_pktV
  obtain ⟨xs, n, rfl, _, hlen, hxl, hg⟩ := DataW.trod_struct hu h
  have hg0 := hg 0 f0 rfl
  have hg1 := hg 1 f1 rfl
  rw [t0, o0, cells_intV] at hg0
  rw [t1, o1, cells_i64V] at hg1
  match xs, hxl, cs, hsz with
  | [y0, y1], _, [v0, v1], _ =>
    obtain ⟨z0, hz0, _, _⟩ := DataW.trod_int Try.underlying3 (show DataW.trod enc Try.prog W base spare held n 3 [v0] = some y0 from hg0)
    obtain ⟨z1, hz1, _, w1⟩ := DataW.trod_int Try.underlying2 (show DataW.trod enc Try.prog W base spare held n 2 [v1] = some y1 from hg1)
    simp at hz0 hz1
    exact ⟨(z0, z1), by rw [hz0, hz1], by have := bounds_i64 w1; exact this.2⟩
theorem open_pkts (K : Nat) {H : Type} {enc : TypeId × Value → H} {W : World} {a0 : Option Addr} {len cap : Nat} {d : DataW H} {p : List MemPlace}
    (h : DataW.Trod enc Try.prog W 0 (fun _ => true) true 42 (.slice a0 len cap) d p)
    (hsz : ∀ elems spare, d = .slice elems spare → (elems.length + spare.length) * Try.prog.bytesOf 5 ≤ K) :
    ∃ l : List (Int × Int), len = l.length ∧ l.length ≤ cap ∧ cap ≤ K ∧ RowK 2 W a0 (l.map pkA) ∧ ∀ k ∈ l, k.2 ≤ 9223372036854775807 := by
  obtain ⟨fuel, hf⟩ := h
  obtain ⟨f0, f1, he, ⟨t0, o0⟩, ⟨t1, o1⟩⟩ := fields_pktV
  rcases open_slice Try.underlying42 hf with ⟨hcs, _⟩ | ⟨x, l, c, m, n, D, Pl, hcs, hb, hl, hm, hmm, hx, hcell⟩
  · simp [Value.cells] at hcs
    obtain ⟨rfl, rfl, rfl⟩ := hcs
    exact ⟨[], rfl, by simp, by omega, RowK.nil _ _ _, fun k hk => by cases hk⟩
  · simp [Value.cells] at hcs
    obtain ⟨rfl, rfl, rfl⟩ := hcs
    obtain rfl : m = cap := by simpa using hmm
    simp only [Prod.mk.injEq] at hx
    have hs := hsz _ _ hx.1
    rw [bytes_u8] at hs
    simp only [List.length_map, List.length_range] at hs
    have each : ∀ i, i < m → ∃ q : Int × Int, (W.cell? (x.add (i * 2)) = some (.int .i64 q.1) ∧ W.cell? (x.add (i * 2 + 1)) = some (.int .i64 q.2)) ∧ q.2 ≤ 9223372036854775807 := fun i hi => by
      obtain ⟨cs', h1, h2⟩ := hcell i hi
      rw [cells_pktV] at h1
      obtain ⟨_, hlen, hc⟩ := World.cells?_some h1
      obtain ⟨q, rfl, hq⟩ := trod_pktV hlen h2
      have e0 := hc 0 (by omega)
      have e1 := hc 1 (by omega)
      rw [add_add] at e0 e1
      exact ⟨q, ⟨by simpa using e0, by simpa using e1⟩, hq⟩
    obtain ⟨q, hq⟩ := choose_lt each
    refine ⟨(List.range len).map q, by simp, by simp; omega, by omega, fun j Z hj => ?_, fun k hk => ?_⟩
    · obtain ⟨hjl, hjz⟩ := List.getElem?_eq_some_iff.1 hj
      have hjl' : j < len := by simpa using hjl
      obtain ⟨⟨h1, h2⟩, _⟩ := hq j (by omega)
      obtain ⟨b, off, spot⟩ := x
      have hspot : spot = none := by
        obtain ⟨⟨h3, _⟩, _⟩ := hq 0 (by omega)
        have := World.cell?_spot h3
        simpa [Addr.add] using this
      subst hspot
      rw [add_none] at h1 h2
      obtain ⟨Y, t, fr, hY, hy0⟩ := cell_blk h1
      have hy1 : Y[off + (j * 2 + 1)]? = some (.int .i64 (q j).2) := by rw [cell_of_row W b _ Y t fr hY] at h2; exact h2
      have hlt := (Array.getElem?_eq_some_iff.1 hy1).1
      refine ⟨b, off, Y, t, fr, rfl, (Array.getElem?_eq_some_iff.1 hY).1, hY, by omega, ?_⟩
      have hz : Z = pkA (q j) := by rw [← hjz]; simp
      subst hz
      apply Array.ext_getElem?
      intro i
      rw [Array.getElem?_extract]
      match i with
      | 0 => rw [if_pos (by omega), Nat.add_zero, hy0]; rfl
      | 1 => rw [if_pos (by omega), Nat.add_assoc, hy1]; rfl
      | i + 2 => rw [if_neg (by omega)]; simp [pkA]
    · simp only [List.mem_map, List.mem_range] at hk
      obtain ⟨j, hj, rfl⟩ := hk
      exact (hq j (by omega)).2
end Go.Proofs.Ytbkipfmnbfjkcaa
