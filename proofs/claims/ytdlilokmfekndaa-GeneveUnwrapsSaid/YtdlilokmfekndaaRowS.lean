/-
  Words for the rows whose arguments are segments: opened to their numbers and lists of bytes.
-/
import Derived.Test.YtdlilokmfekndaaRowP
import Derived.Test.YtdlilokmfekndaaMka
namespace Go.Proofs.Ytdlilokmfekndaa
open Go.ChangeShapes Go.WideShapes Go.ChangeAt Go.RowKit
set_option maxRecDepth 100000
set_option linter.unusedVariables false
set_option linter.constructorNameAsVariable false

theorem cells_u32S : Try.prog.cellsOf 51 = 1 := by kernel_rfl
theorem cells_rseg : Try.prog.cellsOf 61 = 11 := by kernel_rfl
theorem fields_of_rseg : ∃ f0 f1 f2 f3 f4 f5 f6 f7 f8 f9 f10 : Field, Try.prog.underlying 61 = some (.struct #[f0, f1, f2, f3, f4, f5, f6, f7, f8, f9, f10]) ∧ (f0.type = 3 ∧ f0.offset = 0) ∧ (f1.type = 3 ∧ f1.offset = 1) ∧ (f2.type = 3 ∧ f2.offset = 2) ∧ (f3.type = 51 ∧ f3.offset = 3) ∧ (f4.type = 51 ∧ f4.offset = 4) ∧ (f5.type = 3 ∧ f5.offset = 5) ∧ (f6.type = 3 ∧ f6.offset = 6) ∧ (f7.type = 3 ∧ f7.offset = 7) ∧ (f8.type = 4 ∧ f8.offset = 8) ∧ (f9.type = 22 ∧ f9.offset = 9) ∧ (f10.type = 22 ∧ f10.offset = 10) := ⟨_, _, _, _, _, _, _, _, _, _, _, Try.underlying61, ⟨rfl, rfl⟩, ⟨rfl, rfl⟩, ⟨rfl, rfl⟩, ⟨rfl, rfl⟩, ⟨rfl, rfl⟩, ⟨rfl, rfl⟩, ⟨rfl, rfl⟩, ⟨rfl, rfl⟩, ⟨rfl, rfl⟩, ⟨rfl, rfl⟩, ⟨rfl, rfl⟩⟩
/-- a segment that came in, and its two lists. -/
structure InS (W : World) (X : Array Value) (s : Sg) (O D : List UInt8) : Prop where
  x : SgV X s
  o : Byt W W.heap.size s.ao O
  ol : O.length = s.no
  oc : s.no ≤ s.co
  om : s.no ≤ 140737488351232
  on : s.ao = none → s.co = 0
  d : Byt W W.heap.size s.ad D
  dl : D.length = s.nd
  dc : s.nd ≤ s.cd
  dm : s.nd ≤ 140737488351232
  dn : s.ad = none → s.cd = 0

theorem open_rseg {H : Type} {enc : TypeId × Value → H} {W : World} {r : Reach} {b0 : Nat} {v : Value} {d : DataW H} {p : List MemPlace}
    (hv : Value.okWide Try.prog W r b0 61 v) (h : DataW.Trod enc Try.prog W 0 (fun _ => true) true 61 v d p) (hw : ∀ y ∈ d.weights Try.prog 61, y ≤ 140737488351232) :
    ∃ X q O D, v = .agg X ∧ InS W X q O D := by
  obtain ⟨f0, f1, f2, f3, f4, f5, f6, f7, f8, f9, f10, hu, ⟨t0, o0⟩, ⟨t1, o1⟩, ⟨t2, o2⟩, ⟨t3, o3⟩, ⟨t4, o4⟩, ⟨t5, o5⟩, ⟨t6, o6⟩, ⟨t7, o7⟩, ⟨t8, o8⟩, ⟨t9, o9⟩, ⟨t10, o10⟩⟩ := fields_of_rseg
  obtain ⟨cs, rfl, hsz⟩ := okWide_struct hu hv
  obtain ⟨fuel, hf⟩ := h
  obtain ⟨xs, n, rfl, hd, hlen, hxl, hg⟩ := DataW.trod_struct hu hf
  have hg0 := hg 0 f0 rfl
  rw [t0, o0, cells_intP] at hg0
  have hg1 := hg 1 f1 rfl
  rw [t1, o1, cells_intP] at hg1
  have hg2 := hg 2 f2 rfl
  rw [t2, o2, cells_intP] at hg2
  have hg3 := hg 3 f3 rfl
  rw [t3, o3, cells_u32S] at hg3
  have hg4 := hg 4 f4 rfl
  rw [t4, o4, cells_u32S] at hg4
  have hg5 := hg 5 f5 rfl
  rw [t5, o5, cells_intP] at hg5
  have hg6 := hg 6 f6 rfl
  rw [t6, o6, cells_intP] at hg6
  have hg7 := hg 7 f7 rfl
  rw [t7, o7, cells_intP] at hg7
  have hg8 := hg 8 f8 rfl
  rw [t8, o8, cells_bool] at hg8
  have hg9 := hg 9 f9 rfl
  rw [t9, o9, cells_bytesP] at hg9
  have hg10 := hg 10 f10 rfl
  rw [t10, o10, cells_bytesP] at hg10
  have hs : cs.toList.length = 11 := by rw [Array.length_toList, hsz, cells_rseg]
  match xs, hxl with
  | [y0, y1, y2, y3, y4, y5, y6, y7, y8, y9, y10], _ =>
    have k0 : DataW.trod enc Try.prog W 0 (fun _ => true) true n 3 ((cs.toList.drop 0).take 1) = some y0 := hg0
    have k1 : DataW.trod enc Try.prog W 0 (fun _ => true) true n 3 ((cs.toList.drop 1).take 1) = some y1 := hg1
    have k2 : DataW.trod enc Try.prog W 0 (fun _ => true) true n 3 ((cs.toList.drop 2).take 1) = some y2 := hg2
    have k3 : DataW.trod enc Try.prog W 0 (fun _ => true) true n 51 ((cs.toList.drop 3).take 1) = some y3 := hg3
    have k4 : DataW.trod enc Try.prog W 0 (fun _ => true) true n 51 ((cs.toList.drop 4).take 1) = some y4 := hg4
    have k5 : DataW.trod enc Try.prog W 0 (fun _ => true) true n 3 ((cs.toList.drop 5).take 1) = some y5 := hg5
    have k6 : DataW.trod enc Try.prog W 0 (fun _ => true) true n 3 ((cs.toList.drop 6).take 1) = some y6 := hg6
    have k7 : DataW.trod enc Try.prog W 0 (fun _ => true) true n 3 ((cs.toList.drop 7).take 1) = some y7 := hg7
    have k8 : DataW.trod enc Try.prog W 0 (fun _ => true) true n 4 ((cs.toList.drop 8).take 1) = some y8 := hg8
    have k9 : DataW.trod enc Try.prog W 0 (fun _ => true) true n 22 ((cs.toList.drop 9).take 1) = some y9 := hg9
    have k10 : DataW.trod enc Try.prog W 0 (fun _ => true) true n 22 ((cs.toList.drop 10).take 1) = some y10 := hg10
    have hd' : d = .agg [y0.1, y1.1, y2.1, y3.1, y4.1, y5.1, y6.1, y7.1, y8.1, y9.1, y10.1] := by
      have := congrArg Prod.fst hd
      exact this
    have w9 : ∀ y ∈ y9.1.weights Try.prog 22, y ≤ 140737488351232 := fun y hy => hw y (by
      rw [hd', DataW.weights, hu]
      exact DataW.weights_mem_each (ts := #[f0, f1, f2, f3, f4, f5, f6, f7, f8, f9, f10].toList.map (·.type)) (ds := [y0.1, y1.1, y2.1, y3.1, y4.1, y5.1, y6.1, y7.1, y8.1, y9.1, y10.1]) (j := 9) (t := f9.type) (by rfl) (by rfl) y (by rw [t9]; exact hy))
    have w10 : ∀ y ∈ y10.1.weights Try.prog 22, y ≤ 140737488351232 := fun y hy => hw y (by
      rw [hd', DataW.weights, hu]
      exact DataW.weights_mem_each (ts := #[f0, f1, f2, f3, f4, f5, f6, f7, f8, f9, f10].toList.map (·.type)) (ds := [y0.1, y1.1, y2.1, y3.1, y4.1, y5.1, y6.1, y7.1, y8.1, y9.1, y10.1]) (j := 10) (t := f10.type) (by rfl) (by rfl) y (by rw [t10]; exact hy))
    obtain ⟨z0, e0, _, _⟩ := DataW.trod_int Try.underlying3 k0
    obtain ⟨z1, e1, _, _⟩ := DataW.trod_int Try.underlying3 k1
    obtain ⟨z2, e2, _, _⟩ := DataW.trod_int Try.underlying3 k2
    obtain ⟨z3, e3, _, g3⟩ := DataW.trod_int Try.underlying51 k3
    have b3 := bounds_u32 g3
    obtain ⟨n3, rfl⟩ : ∃ n : Nat, z3 = (n : Int) := ⟨z3.toNat, by omega⟩
    obtain ⟨z4, e4, _, g4⟩ := DataW.trod_int Try.underlying51 k4
    have b4 := bounds_u32 g4
    obtain ⟨n4, rfl⟩ : ∃ n : Nat, z4 = (n : Int) := ⟨z4.toNat, by omega⟩
    obtain ⟨z5, e5, _, _⟩ := DataW.trod_int Try.underlying3 k5
    obtain ⟨z6, e6, _, _⟩ := DataW.trod_int Try.underlying3 k6
    obtain ⟨z7, e7, _, _⟩ := DataW.trod_int Try.underlying3 k7
    obtain ⟨z8, e8, _⟩ := DataW.trod_bool Try.underlying4 k8
    obtain ⟨A9, c9, l9, e9, m9, u9, q9, p9⟩ := trod_listP k9 w9
    obtain ⟨A10, c10, l10, e10, m10, u10, q10, p10⟩ := trod_listP k10 w10
    have hc : cs.toList = sgL ⟨z0, z1, z2, n3, n4, z5, z6, z7, z8, A9, l9.length, c9, A10, l10.length, c10⟩ := by
      have s0 : cs.toList = (cs.toList.drop 0).take 1 ++ cs.toList.drop 1 := by rw [List.drop_zero, List.take_append_drop]
      have s1 : cs.toList.drop 1 = (cs.toList.drop 1).take 1 ++ cs.toList.drop 2 := by
        have := (List.take_append_drop 1 (cs.toList.drop 1)).symm
        rwa [List.drop_drop] at this
      have s2 : cs.toList.drop 2 = (cs.toList.drop 2).take 1 ++ cs.toList.drop 3 := by
        have := (List.take_append_drop 1 (cs.toList.drop 2)).symm
        rwa [List.drop_drop] at this
      have s3 : cs.toList.drop 3 = (cs.toList.drop 3).take 1 ++ cs.toList.drop 4 := by
        have := (List.take_append_drop 1 (cs.toList.drop 3)).symm
        rwa [List.drop_drop] at this
      have s4 : cs.toList.drop 4 = (cs.toList.drop 4).take 1 ++ cs.toList.drop 5 := by
        have := (List.take_append_drop 1 (cs.toList.drop 4)).symm
        rwa [List.drop_drop] at this
      have s5 : cs.toList.drop 5 = (cs.toList.drop 5).take 1 ++ cs.toList.drop 6 := by
        have := (List.take_append_drop 1 (cs.toList.drop 5)).symm
        rwa [List.drop_drop] at this
      have s6 : cs.toList.drop 6 = (cs.toList.drop 6).take 1 ++ cs.toList.drop 7 := by
        have := (List.take_append_drop 1 (cs.toList.drop 6)).symm
        rwa [List.drop_drop] at this
      have s7 : cs.toList.drop 7 = (cs.toList.drop 7).take 1 ++ cs.toList.drop 8 := by
        have := (List.take_append_drop 1 (cs.toList.drop 7)).symm
        rwa [List.drop_drop] at this
      have s8 : cs.toList.drop 8 = (cs.toList.drop 8).take 1 ++ cs.toList.drop 9 := by
        have := (List.take_append_drop 1 (cs.toList.drop 8)).symm
        rwa [List.drop_drop] at this
      have s9 : cs.toList.drop 9 = (cs.toList.drop 9).take 1 ++ cs.toList.drop 10 := by
        have := (List.take_append_drop 1 (cs.toList.drop 9)).symm
        rwa [List.drop_drop] at this
      have s10 : cs.toList.drop 10 = (cs.toList.drop 10).take 1 := by rw [List.take_of_length_le (by rw [List.length_drop, hs]; decide)]
      rw [s0, s1, s2, s3, s4, s5, s6, s7, s8, s9, s10, e0, e1, e2, e3, e4, e5, e6, e7, e8, e9, e10]
      rfl
    have hX : cs = (sgL ⟨z0, z1, z2, n3, n4, z5, z6, z7, z8, A9, l9.length, c9, A10, l10.length, c10⟩).toArray := by rw [← hc]
    exact ⟨cs, _, l9, l10, rfl, ⟨hX, by show n3 < _; omega, by show n4 < _; omega⟩, q9, rfl, m9, by show l9.length ≤ _; omega, p9, q10, rfl, m10, by show l10.length ≤ _; omega, p10⟩
end Go.Proofs.Ytdlilokmfekndaa
