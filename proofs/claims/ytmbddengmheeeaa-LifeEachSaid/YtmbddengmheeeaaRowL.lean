/-
  Words for the rows whose arguments are what is known of a backend, as the document's own has it: opened to its numbers and the list of its votes.
-/
import Derived.Test.YtmbddengmheeeaaRowA
import Derived.Test.YtmbddengmheeeaaRowF
import Derived.Test.YtmbddengmheeeaaLfi
import Derived.Deep.SlicePairs
namespace Go.Proofs.Ytmbddengmheeeaa
open Go.ChangeShapes Go.WideShapes Go.ChangeAt Go.RowKit Go.Deep
set_option maxRecDepth 100000
set_option linter.unusedVariables false
set_option linter.constructorNameAsVariable false

theorem cells_i64L : Try.prog.cellsOf 2 = 1 := by kernel_rfl
theorem cells_intL : Try.prog.cellsOf 3 = 1 := by kernel_rfl
theorem cells_votesL : Try.prog.cellsOf 28 = 1 := by kernel_rfl
theorem cells_voteL : Try.prog.cellsOf 44 = 2 := by kernel_rfl
theorem bytes_voteL : Try.prog.bytesOf 44 = 16 := by kernel_rfl
theorem cells_specL : Try.prog.cellsOf 27 = 20 := by kernel_rfl
theorem cells_recL : Try.prog.cellsOf 30 = 24 := by kernel_rfl
theorem fields_voteL : ∃ f0 f1 : Field, Try.prog.underlying 44 = some (.struct #[f0, f1]) ∧ (f0.type = 2 ∧ f0.offset = 0) ∧ (f1.type = 4 ∧ f1.offset = 1) := ⟨_, _, Try.underlying44, ⟨rfl, rfl⟩, ⟨rfl, rfl⟩⟩
theorem fields_specL : ∃ f0 f1 f2 f3 : Field, Try.prog.underlying 27 = some (.struct #[f0, f1, f2, f3]) ∧ (f0.type = 2 ∧ f0.offset = 0) ∧ (f1.type = 3 ∧ f1.offset = 1) ∧ (f2.type = 24 ∧ f2.offset = 2) ∧ (f3.type = 25 ∧ f3.offset = 19) := ⟨_, _, _, _, Try.underlying27, ⟨rfl, rfl⟩, ⟨rfl, rfl⟩, ⟨rfl, rfl⟩, ⟨rfl, rfl⟩⟩
theorem fields_recL : ∃ f0 f1 f2 f3 f4 : Field, Try.prog.underlying 30 = some (.struct #[f0, f1, f2, f3, f4]) ∧ (f0.type = 2 ∧ f0.offset = 0) ∧ (f1.type = 3 ∧ f1.offset = 1) ∧ (f2.type = 27 ∧ f2.offset = 2) ∧ (f3.type = 28 ∧ f3.offset = 22) ∧ (f4.type = 3 ∧ f4.offset = 23) := ⟨_, _, _, _, _, Try.underlying30, ⟨rfl, rfl⟩, ⟨rfl, rfl⟩, ⟨rfl, rfl⟩, ⟨rfl, rfl⟩, ⟨rfl, rfl⟩⟩
theorem trod_adL {H : Type} {enc : TypeId × Value → H} {W : World} {base : Nat} {spare : Nat → Bool} {held : Bool} {fuel : Nat} {cs : List Value} {x : DataW H × List MemPlace} (hsz : cs.length = 17) (h : DataW.trod enc Try.prog W base spare held fuel 24 cs = some x) :
    ∃ k l, l.length = 16 ∧ cs = adL k l := by
  obtain ⟨f0, f1, hu, t0, o0, t1, o1⟩ := fields_of_ad
  obtain ⟨xs, n, rfl, _, hlen, hxl, hg⟩ := DataW.trod_struct hu h
  have hg0 := hg 0 f0 rfl
  have hg1 := hg 1 f1 rfl
  rw [t0, o0, cells_bool] at hg0
  rw [t1, o1, cells_arr] at hg1
  match xs, hxl with
  | [y0, y1], _ =>
    have hg0' : DataW.trod enc Try.prog W base spare held n 4 ((cs.drop 0).take 1) = some y0 := hg0
    have hg1' : DataW.trod enc Try.prog W base spare held n 22 ((cs.drop 1).take 16) = some y1 := hg1
    obtain ⟨k, hk, _⟩ := DataW.trod_bool Try.underlying4 hg0'
    obtain ⟨l, hl, hcs⟩ := trod_bytes16 hg1'
    refine ⟨k, l, hl, ?_⟩
    have e : cs = (cs.drop 0).take 1 ++ (cs.drop 1).take 16 := by
      rw [List.drop_zero, List.take_of_length_le (l := cs.drop 1) (by rw [List.length_drop, hsz]; decide), List.take_append_drop]
    rw [e, hk, hcs]
    rfl
/-- votes in a field. -/
theorem trod_votesL {H : Type} {enc : TypeId × Value → H} {W : World} {fuel : Nat} {cs : List Value} {x : DataW H × List MemPlace} (h : DataW.trod enc Try.prog W 0 (fun _ => true) true fuel 28 cs = some x)
    (hsz : ∀ y ∈ x.1.weights Try.prog 28, y ≤ 140737488351232) :
    ∃ A c l, cs = [.slice A l.length c] ∧ l.length ≤ c ∧ l.length ≤ 8796093022208 ∧ VoS W W.heap.size A l ∧ (A = none → c = 0) := by
  obtain ⟨f0, f1, he, ⟨t0, o0⟩, ⟨t1, o1⟩⟩ := fields_voteL
  rcases open_slice Try.underlying28 h with ⟨rfl, _⟩ | ⟨x, len, c, m, n, D, Pl, rfl, hb, hl, hm, hmm, rfl, hcell⟩
  · exact ⟨none, 0, [], rfl, Nat.le_refl _, by simp, VoS.nil _ _ _, fun _ => rfl⟩
  · obtain rfl : m = c := by simpa using hmm
    have hs := hsz ((((List.range len).map D).length + ((List.range (m - len)).map fun j => D (len + j)).length) * Try.prog.bytesOf 44) (by
      rw [DataW.weights, Try.underlying28]
      exact List.mem_cons_self ..)
    rw [bytes_voteL] at hs
    simp only [List.length_map, List.length_range] at hs
    have each : ∀ i, i < m → ∃ q : Int × Bool, W.cell? (x.add (i * 2)) = some (.int .i64 q.1) ∧ W.cell? (x.add (i * 2 + 1)) = some (.bool q.2) := fun i hi => by
      obtain ⟨cs', h1, h2⟩ := hcell i hi
      rw [cells_voteL] at h1
      obtain ⟨_, hlen, hc⟩ := World.cells?_some h1
      obtain ⟨xs, k, hk, hxy, _, hxl, hff⟩ := DataW.trod_struct he h2
      match xs, hxl, cs', hlen with
      | [y0, y1], _, [v0, v1], _ =>
        have g0 := hff 0 f0 rfl
        have g1 := hff 1 f1 rfl
        rw [t0, o0, cells_i64L] at g0
        rw [t1, o1, cells_bool] at g1
        have e0 := hc 0 (by omega)
        have e1 := hc 1 (by omega)
        rw [add_add] at e0 e1
        obtain ⟨z0, hz0, _, _⟩ := DataW.trod_int Try.underlying2 g0
        obtain ⟨z1, hz1, _⟩ := DataW.trod_bool Try.underlying4 g1
        simp at hz0 hz1
        refine ⟨(z0, z1), ?_, ?_⟩
        · rw [← hz0]; simpa using e0
        · rw [← hz1]; simpa using e1
    obtain ⟨q, hq⟩ := choose_lt each
    refine ⟨some x, m, (List.range len).map q, by simp, by simp; omega, by simp; omega, fun hpos => ?_, (fun e => by cases e)⟩
    simp at hpos
    obtain ⟨b, off, spot⟩ := x
    obtain ⟨h0, _⟩ := hq 0 (by omega)
    have hspot : spot = none := by
      have := World.cell?_spot h0
      simpa [Addr.add] using this
    subst hspot
    have hlt : b < W.heap.size := by
      have := World.block_lt_of_cell? W _ h0
      rwa [block_of_add] at this
    refine ⟨b, off, rfl, hlt, fun i hi => ?_⟩
    simp at hi
    obtain ⟨h1, h2⟩ := hq i (by omega)
    rw [add_none] at h1 h2
    simp only [List.getElem_map, List.getElem_range]
    exact ⟨h1, by rw [Nat.add_assoc]; exact h2⟩
theorem trod_specL {H : Type} {enc : TypeId × Value → H} {W : World} {fuel : Nat} {cs : List Value} {x : DataW H × List MemPlace} (hsz : cs.length = 20) (h : DataW.trod enc Try.prog W 0 (fun _ => true) true fuel 27 cs = some x) :
    ∃ s : Spc, s.ab.length = 16 ∧ s.wt < 2 ^ 64 ∧ cs = spL s := by
  obtain ⟨f0, f1, f2, f3, hu, ⟨t0, o0⟩, ⟨t1, o1⟩, ⟨t2, o2⟩, ⟨t3, o3⟩⟩ := fields_specL
  obtain ⟨xs, n, rfl, hd, hlen, hxl, hg⟩ := DataW.trod_struct hu h
  have hg0 := hg 0 f0 rfl
  rw [t0, o0, cells_i64L] at hg0
  have hg1 := hg 1 f1 rfl
  rw [t1, o1, cells_intL] at hg1
  have hg2 := hg 2 f2 rfl
  rw [t2, o2, cells_ad] at hg2
  have hg3 := hg 3 f3 rfl
  rw [t3, o3, cells_fl] at hg3
  match xs, hxl with
  | [y0, y1, y2, y3], _ =>
    have k0 : DataW.trod enc Try.prog W 0 (fun _ => true) true n 2 ((cs.drop 0).take 1) = some y0 := hg0
    have k1 : DataW.trod enc Try.prog W 0 (fun _ => true) true n 3 ((cs.drop 1).take 1) = some y1 := hg1
    have k2 : DataW.trod enc Try.prog W 0 (fun _ => true) true n 24 ((cs.drop 2).take 17) = some y2 := hg2
    have k3 : DataW.trod enc Try.prog W 0 (fun _ => true) true n 25 ((cs.drop 19).take 1) = some y3 := hg3
    obtain ⟨z0, e0, _, _⟩ := DataW.trod_int Try.underlying2 k0
    obtain ⟨z1, e1, _, _⟩ := DataW.trod_int Try.underlying3 k1
    obtain ⟨v, l, hl, e2⟩ := trod_adL (by rw [List.length_take, List.length_drop, hsz]; decide) k2
    have c19 : ∃ u, (cs.drop 19).take 1 = [u] := by
      have : ((cs.drop 19).take 1).length = 1 := by rw [List.length_take, List.length_drop, hsz]; decide
      match hh : (cs.drop 19).take 1, this with
      | [u], _ => exact ⟨u, rfl⟩
    obtain ⟨u, hu'⟩ := c19
    rw [hu'] at k3
    obtain ⟨f, rfl, hf⟩ := trod_fl Try.underlying25 k3
    refine ⟨⟨z0, z1, v, l, f⟩, hl, hf, ?_⟩
    have s0 : cs = (cs.drop 0).take 1 ++ cs.drop 1 := by rw [List.drop_zero, List.take_append_drop]
    have s1 : cs.drop 1 = (cs.drop 1).take 1 ++ cs.drop 2 := by
      have := (List.take_append_drop 1 (cs.drop 1)).symm
      rwa [List.drop_drop] at this
    have s2 : cs.drop 2 = (cs.drop 2).take 17 ++ cs.drop 19 := by
      have := (List.take_append_drop 17 (cs.drop 2)).symm
      rwa [List.drop_drop] at this
    have s3 : cs.drop 19 = (cs.drop 19).take 1 := by rw [List.take_of_length_le (by rw [List.length_drop, hsz]; decide)]
    rw [s0, s1, s2, s3, e0, e1, e2, hu']
    rfl
/-- what is known, as it came in. -/
theorem open_rec {H : Type} {enc : TypeId × Value → H} {W : World} {r : Reach} {b0 : Nat} {v : Value} {d : DataW H} {p : List MemPlace}
    (hv : Value.okWide Try.prog W r b0 30 v) (h : DataW.Trod enc Try.prog W 0 (fun _ => true) true 30 v d p) (hw : ∀ y ∈ d.weights Try.prog 30, y ≤ 140737488351232) :
    ∃ X k va vc, v = .agg X ∧ KnV W W.heap.size X k va vc ∧ k.vs.length ≤ 8796093022208 := by
  obtain ⟨f0, f1, f2, f3, f4, hu, ⟨t0, o0⟩, ⟨t1, o1⟩, ⟨t2, o2⟩, ⟨t3, o3⟩, ⟨t4, o4⟩⟩ := fields_recL
  obtain ⟨cs, rfl, hsz⟩ := okWide_struct hu hv
  obtain ⟨fuel, hf⟩ := h
  obtain ⟨xs, n, rfl, hd, hlen, hxl, hg⟩ := DataW.trod_struct hu hf
  have hg0 := hg 0 f0 rfl
  rw [t0, o0, cells_i64L] at hg0
  have hg1 := hg 1 f1 rfl
  rw [t1, o1, cells_intL] at hg1
  have hg2 := hg 2 f2 rfl
  rw [t2, o2, cells_specL] at hg2
  have hg3 := hg 3 f3 rfl
  rw [t3, o3, cells_votesL] at hg3
  have hg4 := hg 4 f4 rfl
  rw [t4, o4, cells_intL] at hg4
  have hs : cs.toList.length = 24 := by rw [Array.length_toList, hsz, cells_recL]
  match xs, hxl with
  | [y0, y1, y2, y3, y4], _ =>
    have k0 : DataW.trod enc Try.prog W 0 (fun _ => true) true n 2 ((cs.toList.drop 0).take 1) = some y0 := hg0
    have k1 : DataW.trod enc Try.prog W 0 (fun _ => true) true n 3 ((cs.toList.drop 1).take 1) = some y1 := hg1
    have k2 : DataW.trod enc Try.prog W 0 (fun _ => true) true n 27 ((cs.toList.drop 2).take 20) = some y2 := hg2
    have k3 : DataW.trod enc Try.prog W 0 (fun _ => true) true n 28 ((cs.toList.drop 22).take 1) = some y3 := hg3
    have k4 : DataW.trod enc Try.prog W 0 (fun _ => true) true n 3 ((cs.toList.drop 23).take 1) = some y4 := hg4
    have hd' : d = .agg [y0.1, y1.1, y2.1, y3.1, y4.1] := by
      have := congrArg Prod.fst hd
      exact this
    have w3 : ∀ y ∈ y3.1.weights Try.prog 28, y ≤ 140737488351232 := fun y hy => hw y (by
      rw [hd', DataW.weights, hu]
      exact DataW.weights_mem_each (ts := #[f0, f1, f2, f3, f4].toList.map (·.type)) (ds := [y0.1, y1.1, y2.1, y3.1, y4.1]) (j := 3) (t := f3.type) (by rfl) (by rfl) y (by rw [t3]; exact hy))
    obtain ⟨z0, e0, _, _⟩ := DataW.trod_int Try.underlying2 k0
    obtain ⟨z1, e1, _, _⟩ := DataW.trod_int Try.underlying3 k1
    obtain ⟨s, hsl, hsw, e2⟩ := trod_specL (by rw [List.length_take, List.length_drop, hs]; decide) k2
    obtain ⟨A, c, l, e3, m3, n3, o3, p3⟩ := trod_votesL k3 w3
    obtain ⟨z4, e4, _, _⟩ := DataW.trod_int Try.underlying3 k4
    have hc : cs.toList = rcL ((Kn.mk z0 z1 s l z4).rc A c) := by
      have s0 : cs.toList = (cs.toList.drop 0).take 1 ++ cs.toList.drop 1 := by rw [List.drop_zero, List.take_append_drop]
      have s1 : cs.toList.drop 1 = (cs.toList.drop 1).take 1 ++ cs.toList.drop 2 := by
        have := (List.take_append_drop 1 (cs.toList.drop 1)).symm
        rwa [List.drop_drop] at this
      have s2 : cs.toList.drop 2 = (cs.toList.drop 2).take 20 ++ cs.toList.drop 22 := by
        have := (List.take_append_drop 20 (cs.toList.drop 2)).symm
        rwa [List.drop_drop] at this
      have s3 : cs.toList.drop 22 = (cs.toList.drop 22).take 1 ++ cs.toList.drop 23 := by
        have := (List.take_append_drop 1 (cs.toList.drop 22)).symm
        rwa [List.drop_drop] at this
      have s4 : cs.toList.drop 23 = (cs.toList.drop 23).take 1 := by rw [List.take_of_length_le (by rw [List.length_drop, hs]; decide)]
      rw [s0, s1, s2, s3, s4, e0, e1, e2, e3, e4]
      simp [rcL, Kn.rc]
    have hX : cs = (rcL ((Kn.mk z0 z1 s l z4).rc A c)).toArray := by rw [← hc]
    exact ⟨cs, Kn.mk z0 z1 s l z4, A, c, rfl, ⟨⟨hX, hsl, hsw⟩, o3, by show l.length ≤ _; omega, p3, m3⟩, n3⟩
end Go.Proofs.Ytmbddengmheeeaa
