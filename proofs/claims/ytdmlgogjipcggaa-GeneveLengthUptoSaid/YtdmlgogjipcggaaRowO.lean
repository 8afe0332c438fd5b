/-
  Words for the rows whose arguments are tunnels, as the document's own has them: opened to their numbers, their options, their bytes, by the bound on the bulk.
-/
import Derived.Test.YtdmlgogjipcggaaRow
import Derived.Test.YtdmlgogjipcggaaRowF
import Derived.Test.YtdmlgogjipcggaaGng
import Derived.Deep.SlicePairs
namespace Go.Proofs.Ytdmlgogjipcggaa
open Go.ChangeShapes Go.WideShapes Go.ChangeAt Go.RowKit Go.Deep
set_option maxRecDepth 100000
set_option linter.unusedVariables false
set_option linter.constructorNameAsVariable false

instance : Inhabited OpG := ⟨⟨0, 0, none, 0, []⟩⟩
theorem cells_intO : Try.prog.cellsOf 3 = 1 := by kernel_rfl
theorem cells_boolO : Try.prog.cellsOf 4 = 1 := by kernel_rfl
theorem cells_bytesO : Try.prog.cellsOf 23 = 1 := by kernel_rfl
theorem cells_optO : Try.prog.cellsOf 58 = 3 := by kernel_rfl
theorem cells_optsO : Try.prog.cellsOf 22 = 1 := by kernel_rfl
theorem cells_tunO : Try.prog.cellsOf 25 = 5 := by kernel_rfl
theorem fields_optO : ∃ f0 f1 f2 : Field, Try.prog.underlying 58 = some (.struct #[f0, f1, f2]) ∧ (f0.type = 3 ∧ f0.offset = 0) ∧ (f1.type = 3 ∧ f1.offset = 1) ∧ (f2.type = 23 ∧ f2.offset = 2) := ⟨_, _, _, Try.underlying58, ⟨rfl, rfl⟩, ⟨rfl, rfl⟩, ⟨rfl, rfl⟩⟩
theorem fields_tunO : ∃ f0 f1 f2 f3 f4 : Field, Try.prog.underlying 25 = some (.struct #[f0, f1, f2, f3, f4]) ∧ (f0.type = 4 ∧ f0.offset = 0) ∧ (f1.type = 3 ∧ f1.offset = 1) ∧ (f2.type = 3 ∧ f2.offset = 2) ∧ (f3.type = 22 ∧ f3.offset = 3) ∧ (f4.type = 23 ∧ f4.offset = 4) := ⟨_, _, _, _, _, Try.underlying25, ⟨rfl, rfl⟩, ⟨rfl, rfl⟩, ⟨rfl, rfl⟩, ⟨rfl, rfl⟩, ⟨rfl, rfl⟩⟩
/-- a list of bytes in a field, no longer than its bulk. -/
theorem trod_listO {H : Type} {enc : TypeId × Value → H} {W : World} {fuel : Nat} {cs : List Value} {x : DataW H × List MemPlace} (h : DataW.trod enc Try.prog W 0 (fun _ => true) true fuel 23 cs = some x) :
    ∃ A c l, cs = [.slice A l.length c] ∧ l.length ≤ c ∧ c ≤ Rows.uptoBulk x.1 ∧ Byt W W.heap.size A l ∧ (A = none → c = 0) := by
  have hV : ∃ A ln cp, cs = [.slice A ln cp] := by
    rcases open_ints Try.underlying23 Try.underlying5 cells_u8 h with ⟨hc, _⟩ | ⟨a, ln, cp, zs, hc, _⟩
    · exact ⟨none, 0, 0, hc⟩
    · exact ⟨some a, ln, cp, hc⟩
  obtain ⟨A, ln, cp, rfl⟩ := hV
  obtain ⟨l, rfl, h1, h2, h3, h4⟩ := open_u8s (enc := enc) (W := W) (a0 := A) (len := ln) (cap := cp) (d := x.1) (p := x.2) (Rows.uptoBulk x.1) ⟨fuel, by simpa [Value.cells] using h⟩ (fun elems spare e => by
    rw [bytes_u8, Nat.mul_one, e, Rows.uptoBulk]
    have := bulk_count elems
    have := bulk_count spare
    omega)
  exact ⟨A, cp, l, rfl, h1, h2, h3, h4⟩
theorem sizeG_bulk {H : Type} (q : Nat → OpG) (D : Nat → DataW H) : ∀ ls : List Nat, (∀ i ∈ ls, 4 + (q i).d.length ≤ 4 * Rows.uptoBulk (D i)) → sizeG (ls.map q) ≤ 4 * Rows.uptoBulkAll (ls.map D)
  | [], _ => by simp [sizeG]
  | i :: ls, h => by
    have h1 := h i List.mem_cons_self
    have h2 := sizeG_bulk q D ls (fun j hj => h j (List.mem_cons_of_mem _ hj))
    rw [List.map_cons, List.map_cons, sizeG, Rows.uptoBulkAll]
    omega
/-- options in a field. -/
theorem trod_optsO {H : Type} {enc : TypeId × Value → H} {W : World} {fuel : Nat} {cs : List Value} {x : DataW H × List MemPlace} (h : DataW.trod enc Try.prog W 0 (fun _ => true) true fuel 22 cs = some x) (hk : Rows.uptoBulk x.1 ≤ 1048576) :
    ∃ A c l, cs = [.slice A l.length c] ∧ l.length ≤ c ∧ RdG W W.heap.size A l ∧ OgB W W.heap.size l ∧ l.length ≤ 1048576 ∧ sizeG l ≤ 8388608 ∧ ∀ y ∈ l, y.d.length ≤ 1048576 := by
  obtain ⟨f0, f1, f2, he, ⟨t0, o0⟩, ⟨t1, o1⟩, ⟨t2, o2⟩⟩ := fields_optO
  rcases open_slice Try.underlying22 h with ⟨rfl, _⟩ | ⟨a, len, c, m, n, D, Pl, rfl, hb, hl, hm, hmm, rfl, hcell⟩
  · exact ⟨none, 0, [], rfl, Nat.le_refl _, fun h => by simp at h, OgB.nil _ _, by simp, by simp [sizeG], fun y hy => by simp at hy⟩
  · obtain rfl : m = c := by simpa using hmm
    have each : ∀ i, i < m → ∃ q : OpG, W.cell? (a.add (i * 3)) = some (.int .i64 q.c) ∧ W.cell? (a.add (i * 3 + 1)) = some (.int .i64 q.t) ∧ W.cell? (a.add (i * 3 + 2)) = some (.slice q.a q.d.length q.k) ∧ Byt W W.heap.size q.a q.d ∧ (q.a = none → q.k = 0) ∧ q.d.length ≤ q.k ∧ q.d.length + 1 ≤ Rows.uptoBulk (D i) := fun i hi => by
      obtain ⟨cs', h1, h2⟩ := hcell i hi
      rw [cells_optO] at h1
      obtain ⟨_, hlen, hc⟩ := World.cells?_some h1
      obtain ⟨xs, k, hk', hxy, _, hxl, hff⟩ := DataW.trod_struct he h2
      match xs, hxl, cs', hlen with
      | [y0, y1, y2], _, [v0, v1, v2], _ =>
        have g0 := hff 0 f0 rfl
        have g1 := hff 1 f1 rfl
        have g2 := hff 2 f2 rfl
        rw [t0, o0, cells_intO] at g0
        rw [t1, o1, cells_intO] at g1
        rw [t2, o2, cells_bytesO] at g2
        have e0 := hc 0 (by omega)
        have e1 := hc 1 (by omega)
        have e2 := hc 2 (by omega)
        rw [add_add] at e0 e1 e2
        obtain ⟨z0, hz0, _, _⟩ := DataW.trod_int Try.underlying3 g0
        obtain ⟨z1, hz1, _, _⟩ := DataW.trod_int Try.underlying3 g1
        obtain ⟨A2, c2, l2, hz2, m2, b2, y2', n2⟩ := trod_listO g2
        simp at hz0 hz1 hz2
        have hDi : D i = .agg [y0.1, y1.1, y2.1] := congrArg Prod.fst hxy
        refine ⟨⟨z0, z1, A2, c2, l2⟩, ?_, ?_, ?_, y2', n2, m2, ?_⟩
        · rw [← hz0]; simpa using e0
        · rw [← hz1]; simpa using e1
        · rw [← hz2]; simpa using e2
        · have h5 : Rows.uptoBulk y2.1 ≤ Rows.uptoBulkAll [y0.1, y1.1, y2.1] := bulk_of_mem (by simp)
          rw [hDi, Rows.uptoBulk]
          show l2.length + 1 ≤ _
          omega
    obtain ⟨q, hq⟩ := choose_lt each
    have hlm : len ≤ m := hl
    have hk2 : Rows.uptoBulkAll ((List.range len).map D) + Rows.uptoBulkAll ((List.range (m - len)).map fun j => D (len + j)) + 1 ≤ 1048576 := by rw [Rows.uptoBulk] at hk; exact hk
    have hcnt := bulk_count ((List.range len).map D)
    simp only [List.length_map, List.length_range] at hcnt
    refine ⟨some a, m, (List.range len).map q, by simp, by simp; omega, fun hpos => ?_, fun y hy => ?_, by simp; omega, ?_, fun y hy => ?_⟩
    · simp at hpos
      obtain ⟨b, off, spot⟩ := a
      obtain ⟨h0, _⟩ := hq 0 (by omega)
      have hspot : spot = none := by
        have := World.cell?_spot h0
        simpa [Addr.add] using this
      subst hspot
      have hlt : b < W.heap.size := by
        have := World.block_lt_of_cell? W _ h0
        rwa [block_of_add] at this
      refine ⟨b, off, rfl, hlt, fun i hi => ?_⟩
      simp at hi
      obtain ⟨h1, h2, h3, -⟩ := hq i (by omega)
      rw [add_none] at h1 h2 h3
      simp only [List.getElem_map, List.getElem_range]
      exact ⟨h1, by rw [Nat.add_assoc]; exact h2, by rw [Nat.add_assoc]; exact h3⟩
    · obtain ⟨i, hi, rfl⟩ := List.mem_map.1 hy
      rw [List.mem_range] at hi
      obtain ⟨-, -, -, h4, h5, h6, -⟩ := hq i (by omega)
      exact ⟨h4, h5, h6⟩
    · refine Nat.le_trans (sizeG_bulk q D (List.range len) (fun i hi => ?_)) (by omega)
      rw [List.mem_range] at hi
      have := (hq i (by omega)).2.2.2.2.2.2
      omega
    · obtain ⟨i, hi, rfl⟩ := List.mem_map.1 hy
      rw [List.mem_range] at hi
      have h7 := (hq i (by omega)).2.2.2.2.2.2
      have h8 : Rows.uptoBulk (D i) ≤ Rows.uptoBulkAll ((List.range len).map D) := bulk_of_mem (List.mem_map.2 ⟨i, List.mem_range.2 hi, rfl⟩)
      omega
/-- a tunnel as it came in. -/
theorem open_rtunO {H : Type} {enc : TypeId × Value → H} {W : World} {r : Reach} {b0 : Nat} {v : Value} {d : DataW H} {p : List MemPlace}
    (hv : Value.okWide Try.prog W r b0 25 v) (h : DataW.Trod enc Try.prog W 0 (fun _ => true) true 25 v d p) (hb : Rows.uptoBulk d ≤ 1048576) :
    ∃ X T, v = .agg X ∧ TuG W X T ∧ T.l.length ≤ 1048576 ∧ sizeD T.l ≤ 8388608 ∧ T.D.length ≤ 1048576 ∧ ∀ y ∈ T.l, y.2.2.length ≤ 1048576 := by
  obtain ⟨f0, f1, f2, f3, f4, hu, ⟨t0, o0⟩, ⟨t1, o1⟩, ⟨t2, o2⟩, ⟨t3, o3⟩, ⟨t4, o4⟩⟩ := fields_tunO
  obtain ⟨cs, rfl, hsz⟩ := okWide_struct hu hv
  obtain ⟨fuel, hf⟩ := h
  obtain ⟨xs, n, rfl, hd, hlen, hxl, hg⟩ := DataW.trod_struct hu hf
  have hg0 := hg 0 f0 rfl
  rw [t0, o0, cells_boolO] at hg0
  have hg1 := hg 1 f1 rfl
  rw [t1, o1, cells_intO] at hg1
  have hg2 := hg 2 f2 rfl
  rw [t2, o2, cells_intO] at hg2
  have hg3 := hg 3 f3 rfl
  rw [t3, o3, cells_optsO] at hg3
  have hg4 := hg 4 f4 rfl
  rw [t4, o4, cells_bytesO] at hg4
  have hs : cs.toList.length = 5 := by rw [Array.length_toList, hsz, cells_tunO]
  match xs, hxl with
  | [y0, y1, y2, y3, y4], _ =>
    have k0 : DataW.trod enc Try.prog W 0 (fun _ => true) true n 4 ((cs.toList.drop 0).take 1) = some y0 := hg0
    have k1 : DataW.trod enc Try.prog W 0 (fun _ => true) true n 3 ((cs.toList.drop 1).take 1) = some y1 := hg1
    have k2 : DataW.trod enc Try.prog W 0 (fun _ => true) true n 3 ((cs.toList.drop 2).take 1) = some y2 := hg2
    have k3 : DataW.trod enc Try.prog W 0 (fun _ => true) true n 22 ((cs.toList.drop 3).take 1) = some y3 := hg3
    have k4 : DataW.trod enc Try.prog W 0 (fun _ => true) true n 23 ((cs.toList.drop 4).take 1) = some y4 := hg4
    have hd' : d = .agg [y0.1, y1.1, y2.1, y3.1, y4.1] := by
      have := congrArg Prod.fst hd
      exact this
    rw [hd', Rows.uptoBulk] at hb
    have h3 : Rows.uptoBulk y3.1 ≤ Rows.uptoBulkAll [y0.1, y1.1, y2.1, y3.1, y4.1] := bulk_of_mem (by simp)
    have h4 : Rows.uptoBulk y4.1 ≤ Rows.uptoBulkAll [y0.1, y1.1, y2.1, y3.1, y4.1] := bulk_of_mem (by simp)
    obtain ⟨z0, e0, _⟩ := DataW.trod_bool Try.underlying4 k0
    obtain ⟨z1, e1, _, _⟩ := DataW.trod_int Try.underlying3 k1
    obtain ⟨z2, e2, _, _⟩ := DataW.trod_int Try.underlying3 k2
    obtain ⟨A, c, l, e3, m3, r3, ob3, n3, s3, x3⟩ := trod_optsO k3 (by omega)
    obtain ⟨I, k, D, e4, m4, n4, o4, p4⟩ := trod_listO k4
    have hc : cs.toList = (tunA z0 z1 z2 A l.length c I D.length k).toList := by
      have s0 : cs.toList = (cs.toList.drop 0).take 1 ++ cs.toList.drop 1 := by rw [List.drop_zero, List.take_append_drop]
      have s1 : cs.toList.drop 1 = (cs.toList.drop 1).take 1 ++ cs.toList.drop 2 := by
        have := (List.take_append_drop 1 (cs.toList.drop 1)).symm
        rwa [List.drop_drop] at this
      have s2 : cs.toList.drop 2 = (cs.toList.drop 2).take 1 ++ cs.toList.drop 3 := by
        have := (List.take_append_drop 1 (cs.toList.drop 2)).symm
        rwa [List.drop_drop] at this
      have s3 : cs.toList.drop 3 = (cs.toList.drop 3).take 1 ++ cs.toList.drop 4 := by
        have := (List.take_append_drop 1 (cs.toList.drop 3)).symm
        rwa [List.drop_drop] at this
      have s4 : cs.toList.drop 4 = (cs.toList.drop 4).take 1 := by rw [List.take_of_length_le (by rw [List.length_drop, hs]; decide)]
      rw [s0, s1, s2, s3, s4, e0, e1, e2, e3, e4]
      rfl
    have hX : cs = tunA z0 z1 z2 A l.length c I D.length k := by
      have := congrArg List.toArray hc
      simpa using this
    refine ⟨cs, ⟨z0, z1, z2, l.map OpG.say, D⟩, rfl, ⟨A, c, l, I, k, hX, rfl, r3, ob3, m3, o4, p4, m4⟩, by simpa using n3, by rw [← sizeG_say]; exact s3, by show D.length ≤ _; omega, fun y hy => ?_⟩
    obtain ⟨z, hz, rfl⟩ := List.mem_map.1 hy
    exact x3 z hz
end Go.Proofs.Ytdmlgogjipcggaa
