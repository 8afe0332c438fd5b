/-
  Words for the rows whose argument is a slice of calls of Counts: opened to a list of three numbers each.
-/
import Derived.Test.YthfdendkjifhkaaRow
import Derived.Deep.SlicePairs
namespace Go.Proofs.Ythfdendkjifhkaa
open Go.ChangeShapes Go.WideShapes Go.ChangeAt Go.RowKit Go.Deep
set_option linter.unusedVariables false
set_option maxRecDepth 100000

/-- the slice that begins at A reads, below block B, as these calls. -/
def Acts6 (w : World) (B : Nat) (A : Option Addr) (l : List (Int × Int × Nat)) : Prop :=
  0 < l.length → ∃ b off, A = some ⟨b, off, none⟩ ∧ b < B ∧ ∀ i (h : i < l.length), w.cell? ⟨b, off + i * 3, none⟩ = some (.int .i64 l[i].1) ∧ w.cell? ⟨b, off + i * 3 + 1, none⟩ = some (.int .i64 l[i].2.1) ∧ w.cell? ⟨b, off + i * 3 + 2, none⟩ = some (.int .u64 (l[i].2.2 : Int)) ∧ l[i].2.2 < 18446744073709551616
theorem bytes_act6 : Try.prog.bytesOf 76 = 24 := by kernel_rfl
theorem cells_act6 : Try.prog.cellsOf 76 = 3 := by kernel_rfl
theorem cells_int6 : Try.prog.cellsOf 3 = 1 := by kernel_rfl
theorem cells_u646 : Try.prog.cellsOf 69 = 1 := by kernel_rfl
theorem le_acts6 {n : Nat} (h : n * Try.prog.bytesOf 76 ≤ 140737488351232) : n * Try.prog.bytesOf 5 ≤ 8796093022208 := by rw [bytes_act6] at h; rw [bytes_u8]; omega
theorem fields_act6 : ∃ f0 f1 f2 : Field, Try.prog.underlying 76 = some (.struct #[f0, f1, f2]) ∧ (f0.type = 3 ∧ f0.offset = 0) ∧ (f1.type = 3 ∧ f1.offset = 1) ∧ (f2.type = 69 ∧ f2.offset = 2) := ⟨_, _, _, Try.underlying76, ⟨rfl, rfl⟩, ⟨rfl, rfl⟩, ⟨rfl, rfl⟩⟩

theorem open_acts6 (K : Nat) {H : Type} {enc : TypeId × Value → H} {W : World} {a0 : Option Addr} {len cap : Nat} {d : DataW H} {p : List MemPlace}
    (h : DataW.Trod enc Try.prog W 0 (fun _ => true) true 70 (.slice a0 len cap) d p)
    (hsz : ∀ elems spare, d = .slice elems spare → (elems.length + spare.length) * Try.prog.bytesOf 5 ≤ K) :
    ∃ l : List (Int × Int × Nat), len = l.length ∧ l.length ≤ cap ∧ cap ≤ K ∧ Acts6 W W.heap.size a0 l := by
  obtain ⟨fuel, hf⟩ := h
  obtain ⟨f0, f1, f2, he, ⟨t0, o0⟩, ⟨t1, o1⟩, ⟨t2, o2⟩⟩ := fields_act6
  rcases open_slice Try.underlying70 hf with ⟨hcs, _⟩ | ⟨x, l, c, m, n, D, Pl, hcs, hb, hl, hm, hmm, hx, hcell⟩
  · simp [Value.cells] at hcs
    obtain ⟨rfl, rfl, rfl⟩ := hcs
    exact ⟨[], rfl, by simp, by omega, fun hp => absurd hp (by simp)⟩
  · simp [Value.cells] at hcs
    obtain ⟨rfl, rfl, rfl⟩ := hcs
    obtain rfl : m = cap := by simpa using hmm
    simp only [Prod.mk.injEq] at hx
    have hs := hsz _ _ hx.1
    rw [bytes_u8] at hs
    simp only [List.length_map, List.length_range] at hs
    have each : ∀ i, i < m → ∃ q : Int × Int × Nat, W.cell? (x.add (i * 3)) = some (.int .i64 q.1) ∧ W.cell? (x.add (i * 3 + 1)) = some (.int .i64 q.2.1) ∧ W.cell? (x.add (i * 3 + 2)) = some (.int .u64 (q.2.2 : Int)) ∧ q.2.2 < 18446744073709551616 := fun i hi => by
      obtain ⟨cs', h1, h2⟩ := hcell i hi
      rw [cells_act6] at h1
      obtain ⟨_, hlen, hc⟩ := World.cells?_some h1
      obtain ⟨xs, k, hk, hxy, _, hxl, hff⟩ := DataW.trod_struct he h2
      match xs, hxl, cs', hlen with
      | [y0, y1, y2], _, [v0, v1, v2], _ =>
        have g0 := hff 0 f0 rfl
        have g1 := hff 1 f1 rfl
        have g2 := hff 2 f2 rfl
        rw [t0, o0, cells_int6] at g0
        rw [t1, o1, cells_int6] at g1
        rw [t2, o2, cells_u646] at g2
        have e0 := hc 0 (by omega)
        have e1 := hc 1 (by omega)
        have e2 := hc 2 (by omega)
        rw [add_add] at e0 e1 e2
        obtain ⟨z0, hz0, _, _⟩ := DataW.trod_int Try.underlying3 g0
        obtain ⟨z1, hz1, _, _⟩ := DataW.trod_int Try.underlying3 g1
        obtain ⟨z2, hz2, _, hw2⟩ := DataW.trod_int Try.underlying69 g2
        have b2 := bounds_u64 hw2
        simp at hz0 hz1 hz2
        refine ⟨(z0, z1, z2.toNat), ?_, ?_, ?_, by show z2.toNat < _; omega⟩
        · rw [← hz0]; simpa using e0
        · rw [← hz1]; simpa using e1
        · show _ = some (Value.int .u64 ((z2.toNat : Nat) : Int))
          rw [Int.toNat_of_nonneg b2.1, ← hz2]
          simpa using e2
    obtain ⟨q, hq⟩ := choose_lt each
    refine ⟨(List.range len).map q, by simp, by simp; omega, by omega, fun hpos => ?_⟩
    simp at hpos
    obtain ⟨b, off, spot⟩ := x
    obtain ⟨h0, _⟩ := hq 0 (by omega)
    have hspot : spot = none := by
      have := World.cell?_spot h0
      simpa [Addr.add] using this
    subst hspot
    have hlt : b < W.heap.size := by
      have := World.block_lt_of_cell? W _ h0
      rwa [block_of_add] at this
    refine ⟨b, off, rfl, hlt, fun i hi => ?_⟩
    simp at hi
    obtain ⟨h1, h2, h3, h4⟩ := hq i (by omega)
    rw [add_none] at h1 h2 h3
    simp only [List.getElem_map, List.getElem_range]
    exact ⟨h1, by rw [Nat.add_assoc]; exact h2, by rw [Nat.add_assoc]; exact h3, h4⟩
end Go.Proofs.Ythfdendkjifhkaa
