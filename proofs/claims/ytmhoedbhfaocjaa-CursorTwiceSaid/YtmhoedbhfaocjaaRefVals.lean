/-
  Words for the rows whose argument is a slice of what pieces were: opened to a list of numbers, slices and bytes.
-/
import Derived.Test.YtmhoedbhfaocjaaRefOps
import Derived.Test.YtmhoedbhfaocjaaSame
namespace Go.Proofs.Ytmhoedbhfaocjaa
open Go.ChangeShapes Go.WideShapes Go.ChangeAt Go.RowKit Go.Deep

theorem bytes_refval : Try.prog.bytesOf 87 = 32 := by kernel_rfl
theorem cells_refval : Try.prog.cellsOf 87 = 2 := by kernel_rfl
theorem cells_u64 : Try.prog.cellsOf 38 = 1 := by kernel_rfl
theorem cells_bytes : Try.prog.cellsOf 22 = 1 := by kernel_rfl

theorem weightsAll_mem {H : Type} {P : Program} {e : TypeId} {d : DataW H} {x : Nat} : ∀ {l : List (DataW H)}, d ∈ l → x ∈ d.weights P e → x ∈ DataW.weightsAll P e l
  | [], h, _ => by simp at h
  | d' :: r, h, hx => by
    rw [DataW.weightsAll]
    rcases List.mem_cons.1 h with rfl | h
    · exact List.mem_append_left _ hx
    · exact List.mem_append_right _ (weightsAll_mem h hx)

theorem le_ops {n : Nat} (h : n * Try.prog.bytesOf 59 ≤ reachBytes) : n * Try.prog.bytesOf 5 ≤ 8796093022208 := by
  rw [bytes_refop] at h
  rw [bytes_u8]
  have e : reachBytes = 140737488351232 := rfl
  omega
theorem le_vals {H : Type} {ts : List TypeId} {ds : List (DataW H)} (hsz : (DataW.weightsEach Try.prog ts ds).all (· ≤ reachBytes) = true) {j : Nat} {t : TypeId} {d : DataW H} (ht : ts[j]? = some t) (hd : ds[j]? = some d) : ∀ x ∈ d.weights Try.prog t, x ≤ 140737488351232 := fun x hx => by
  have h := List.all_eq_true.1 hsz x (DataW.weights_mem_each ht hd x hx)
  have e : reachBytes = 140737488351232 := rfl
  rw [← e]
  exact of_decide_eq_true h

theorem open_vals {H : Type} {enc : TypeId × Value → H} {W : World} {a0 : Option Addr} {len cap : Nat} {d : DataW H} {p : List MemPlace}
    (h : DataW.Trod enc Try.prog W 0 (fun _ => true) true 31 (.slice a0 len cap) d p)
    (hsz : ∀ x ∈ d.weights Try.prog 31, x ≤ 140737488351232) :
    ∃ l : List VItem, len = l.length ∧ l.length ≤ cap ∧ cap ≤ 4398046511104 ∧ RdV W W.heap.size a0 l ∧ RdB W W.heap.size l ∧ (∀ it ∈ l, it.b.length ≤ 140737488351232) ∧ (∀ it ∈ l, it.N ≤ 18446744073709551615) := by
  obtain ⟨fuel, hf⟩ := h
  rcases open_slice_pairs Try.underlying31 Try.underlying87 cells_refval rfl rfl cells_u64 cells_bytes hf with ⟨hcs, _⟩ | ⟨x, l, c, m, n, V0, V1, D0, D1, P0, P1, hcs, _, hl, hm, hmm, hx, hcell⟩
  · simp [Value.cells] at hcs
    obtain ⟨rfl, rfl, rfl⟩ := hcs
    exact ⟨[], rfl, by simp, by omega, fun hp => absurd hp (by simp), fun it h => by simp at h, fun it h => by simp at h, fun it h => by simp at h⟩
  · simp [Value.cells] at hcs
    obtain ⟨rfl, rfl, rfl⟩ := hcs
    obtain rfl : m = cap := by simpa using hmm
    simp only [Prod.mk.injEq] at hx
    obtain ⟨rfl, _⟩ := hx
    have hw : (len + (m - len)) * 32 ≤ 140737488351232 := by
      have := hsz ((len + (m - len)) * 32) (by rw [DataW.weights, Try.underlying31]; simp [bytes_refval])
      exact this
    have each : ∀ i, i < len → ∃ q : VItem, W.cell? (x.add (i * 2)) = some (.int .u64 (q.N : Int)) ∧ W.cell? (x.add (i * 2 + 1)) = some q.v ∧ (∃ A c, q.v = .slice A q.b.length c ∧ q.b.length ≤ c ∧ Byt W W.heap.size A q.b) ∧ q.b.length ≤ 140737488351232 ∧ q.N ≤ 18446744073709551615 := fun i hi => by
      obtain ⟨e0, e1, t0, t1⟩ := hcell i (by omega)
      obtain ⟨z0, hz0, _, wf0⟩ := DataW.trod_int Try.underlying38 t0
      have b0 := bounds_u64 wf0
      simp at hz0
      have hmem : DataW.agg [D0 i, D1 i] ∈ (List.range len).map fun i => DataW.agg [D0 i, D1 i] := List.mem_map.2 ⟨i, List.mem_range.2 hi, rfl⟩
      have hV : ∃ A ln cp, V1 i = .slice A ln cp := by
        rcases open_ints Try.underlying22 Try.underlying5 cells_u8 t1 with ⟨hc, _⟩ | ⟨a, ln, cp, zs, hc, _⟩
        · simp at hc; exact ⟨none, 0, 0, hc⟩
        · simp at hc; exact ⟨some a, ln, cp, hc⟩
      obtain ⟨A, ln, cp, hV⟩ := hV
      obtain ⟨lb, hln, hlb, hcp, hby, _⟩ := open_u8s (enc := enc) (W := W) (a0 := A) (len := ln) (cap := cp) (d := D1 i) (p := P1 i) 140737488351232 ⟨n, by rw [hV] at t1; simpa [Value.cells] using t1⟩ (fun elems spare e => by
        refine hsz _ ?_
        rw [DataW.weights, Try.underlying31]
        refine List.mem_cons_of_mem _ (List.mem_append_left _ (weightsAll_mem hmem ?_))
        rw [DataW.weights, Try.underlying87]
        simp only [List.map_cons, List.map_nil, DataW.weightsEach, List.append_nil]
        refine List.mem_append_right _ ?_
        rw [e, DataW.weights, Try.underlying22]
        exact List.mem_cons_self ..)
      refine ⟨⟨z0.toNat, .slice A ln cp, lb⟩, ?_, ?_, ⟨A, cp, by rw [hln], hlb, hby⟩, by show lb.length ≤ _; omega, by show z0.toNat ≤ _; omega⟩
      · rw [e0, hz0, show ((z0.toNat : Nat) : Int) = z0 from by omega]
      · rw [e1, hV]
    haveI : Inhabited VItem := ⟨⟨0, .slice none 0 0, []⟩⟩
    obtain ⟨q, hq⟩ := choose_lt each
    refine ⟨(List.range len).map q, by simp, by simp; omega, by omega, fun hpos => ?_, fun it hit => ?_, fun it hit => ?_, fun it hit => ?_⟩
    · simp at hpos
      obtain ⟨b, off, spot⟩ := x
      obtain ⟨h0, _⟩ := hq 0 (by omega)
      have hspot : spot = none := by
        have := World.cell?_spot h0
        simpa [Addr.add] using this
      subst hspot
      have hlt : b < W.heap.size := by
        have := World.block_lt_of_cell? W _ h0
        rwa [block_of_add] at this
      refine ⟨b, off, rfl, hlt, fun i hi => ?_⟩
      simp at hi
      obtain ⟨h1, h2, _⟩ := hq i (by omega)
      rw [add_none] at h1 h2
      simp only [List.getElem_map, List.getElem_range]
      exact ⟨h1, by rw [Nat.add_assoc]; exact h2⟩
    · obtain ⟨i, hi, rfl⟩ := List.mem_map.1 hit
      exact (hq i (List.mem_range.1 hi)).2.2.1
    · obtain ⟨i, hi, rfl⟩ := List.mem_map.1 hit
      exact (hq i (List.mem_range.1 hi)).2.2.2.1
    · obtain ⟨i, hi, rfl⟩ := List.mem_map.1 hit
      exact (hq i (List.mem_range.1 hi)).2.2.2.2
end Go.Proofs.Ytmhoedbhfaocjaa
