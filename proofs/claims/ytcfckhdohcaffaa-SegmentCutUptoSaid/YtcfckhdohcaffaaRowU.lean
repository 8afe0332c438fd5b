/-
  Words for the rows of statements over little: packets and segments that came in, by the bound on the bulk.
-/
import Derived.Test.YtcfckhdohcaffaaRowS
namespace Go.Proofs.Ytcfckhdohcaffaa
open Go.ChangeShapes Go.WideShapes Go.ChangeAt Go.RowKit
set_option maxRecDepth 100000
set_option linter.unusedVariables false
set_option linter.constructorNameAsVariable false

theorem bulk_at {H : Type} {l : List (DataW H)} (hk : Rows.uptoSmall H l = true) {d : DataW H} (h : d ∈ l) : Rows.uptoBulk d ≤ 1048576 :=
  Nat.le_trans (bulk_of_mem h) (of_decide_eq_true hk)
/-- a list of bytes in a field. -/
theorem trod_listU {H : Type} {enc : TypeId × Value → H} {W : World} {fuel : Nat} {cs : List Value} {x : DataW H × List MemPlace} (h : DataW.trod enc Try.prog W 0 (fun _ => true) true fuel 25 cs = some x)
    (hsz : ∀ elems spare, x.1 = .slice elems spare → elems.length + spare.length ≤ 140737488351232) :
    ∃ A c l, cs = [.slice A l.length c] ∧ l.length ≤ c ∧ c ≤ 140737488351232 ∧ Byt W W.heap.size A l ∧ (A = none → c = 0) := by
  have hV : ∃ A ln cp, cs = [.slice A ln cp] := by
    rcases open_ints Try.underlying25 Try.underlying5 cells_u8 h with ⟨hc, _⟩ | ⟨a, ln, cp, zs, hc, _⟩
    · exact ⟨none, 0, 0, hc⟩
    · exact ⟨some a, ln, cp, hc⟩
  obtain ⟨A, ln, cp, rfl⟩ := hV
  obtain ⟨l, rfl, h1, h2, h3, h4⟩ := open_u8s (enc := enc) (W := W) (a0 := A) (len := ln) (cap := cp) (d := x.1) (p := x.2) 140737488351232 ⟨fuel, by simpa [Value.cells] using h⟩ (fun elems spare e => by rw [bytes_u8, Nat.mul_one]; exact hsz _ _ e)
  exact ⟨A, cp, l, rfl, h1, h2, h3, h4⟩

theorem open_ripU {H : Type} {enc : TypeId × Value → H} {W : World} {r : Reach} {b0 : Nat} {v : Value} {d : DataW H} {p : List MemPlace}
    (hv : Value.okWide Try.prog W r b0 27 v) (h : DataW.Trod enc Try.prog W 0 (fun _ => true) true 27 v d p) (hb : Rows.uptoBulk d ≤ 1048576) :
    ∃ X q O D, v = .agg X ∧ InP W X q O D := by
  obtain ⟨f0, f1, f2, f3, f4, f5, f6, f7, f8, f9, f10, hu, ⟨t0, o0⟩, ⟨t1, o1⟩, ⟨t2, o2⟩, ⟨t3, o3⟩, ⟨t4, o4⟩, ⟨t5, o5⟩, ⟨t6, o6⟩, ⟨t7, o7⟩, ⟨t8, o8⟩, ⟨t9, o9⟩, ⟨t10, o10⟩⟩ := fields_of_rip
  obtain ⟨cs, rfl, hsz⟩ := okWide_struct hu hv
  obtain ⟨fuel, hf⟩ := h
  obtain ⟨xs, n, rfl, hd, hlen, hxl, hg⟩ := DataW.trod_struct hu hf
  have hg0 := hg 0 f0 rfl
  rw [t0, o0, cells_bool] at hg0
  have hg1 := hg 1 f1 rfl
  rw [t1, o1, cells_ad] at hg1
  have hg2 := hg 2 f2 rfl
  rw [t2, o2, cells_ad] at hg2
  have hg3 := hg 3 f3 rfl
  rw [t3, o3, cells_intP] at hg3
  have hg4 := hg 4 f4 rfl
  rw [t4, o4, cells_intP] at hg4
  have hg5 := hg 5 f5 rfl
  rw [t5, o5, cells_intP] at hg5
  have hg6 := hg 6 f6 rfl
  rw [t6, o6, cells_intP] at hg6
  have hg7 := hg 7 f7 rfl
  rw [t7, o7, cells_bool] at hg7
  have hg8 := hg 8 f8 rfl
  rw [t8, o8, cells_intP] at hg8
  have hg9 := hg 9 f9 rfl
  rw [t9, o9, cells_bytesP] at hg9
  have hg10 := hg 10 f10 rfl
  rw [t10, o10, cells_bytesP] at hg10
  have hs : cs.toList.length = 43 := by rw [Array.length_toList, hsz, cells_rip]
  match xs, hxl with
  | [y0, y1, y2, y3, y4, y5, y6, y7, y8, y9, y10], _ =>
    have k0 : DataW.trod enc Try.prog W 0 (fun _ => true) true n 4 ((cs.toList.drop 0).take 1) = some y0 := hg0
    have k1 : DataW.trod enc Try.prog W 0 (fun _ => true) true n 24 ((cs.toList.drop 1).take 17) = some y1 := hg1
    have k2 : DataW.trod enc Try.prog W 0 (fun _ => true) true n 24 ((cs.toList.drop 18).take 17) = some y2 := hg2
    have k3 : DataW.trod enc Try.prog W 0 (fun _ => true) true n 3 ((cs.toList.drop 35).take 1) = some y3 := hg3
    have k4 : DataW.trod enc Try.prog W 0 (fun _ => true) true n 3 ((cs.toList.drop 36).take 1) = some y4 := hg4
    have k5 : DataW.trod enc Try.prog W 0 (fun _ => true) true n 3 ((cs.toList.drop 37).take 1) = some y5 := hg5
    have k6 : DataW.trod enc Try.prog W 0 (fun _ => true) true n 3 ((cs.toList.drop 38).take 1) = some y6 := hg6
    have k7 : DataW.trod enc Try.prog W 0 (fun _ => true) true n 4 ((cs.toList.drop 39).take 1) = some y7 := hg7
    have k8 : DataW.trod enc Try.prog W 0 (fun _ => true) true n 3 ((cs.toList.drop 40).take 1) = some y8 := hg8
    have k9 : DataW.trod enc Try.prog W 0 (fun _ => true) true n 25 ((cs.toList.drop 41).take 1) = some y9 := hg9
    have k10 : DataW.trod enc Try.prog W 0 (fun _ => true) true n 25 ((cs.toList.drop 42).take 1) = some y10 := hg10
    have hd' : d = .agg [y0.1, y1.1, y2.1, y3.1, y4.1, y5.1, y6.1, y7.1, y8.1, y9.1, y10.1] := by
      have := congrArg Prod.fst hd
      exact this
    have w9 : ∀ elems spare, y9.1 = .slice elems spare → elems.length + spare.length ≤ 140737488351232 := fun elems spare e => by
      have h1 : Rows.uptoBulk y9.1 ≤ Rows.uptoBulkAll [y0.1, y1.1, y2.1, y3.1, y4.1, y5.1, y6.1, y7.1, y8.1, y9.1, y10.1] := bulk_of_mem (by simp)
      have h2 : Rows.uptoBulk y9.1 = Rows.uptoBulkAll elems + Rows.uptoBulkAll spare + 1 := by rw [e, Rows.uptoBulk]
      rw [hd', Rows.uptoBulk] at hb
      have := bulk_count elems
      have := bulk_count spare
      omega
    have w10 : ∀ elems spare, y10.1 = .slice elems spare → elems.length + spare.length ≤ 140737488351232 := fun elems spare e => by
      have h1 : Rows.uptoBulk y10.1 ≤ Rows.uptoBulkAll [y0.1, y1.1, y2.1, y3.1, y4.1, y5.1, y6.1, y7.1, y8.1, y9.1, y10.1] := bulk_of_mem (by simp)
      have h2 : Rows.uptoBulk y10.1 = Rows.uptoBulkAll elems + Rows.uptoBulkAll spare + 1 := by rw [e, Rows.uptoBulk]
      rw [hd', Rows.uptoBulk] at hb
      have := bulk_count elems
      have := bulk_count spare
      omega
    obtain ⟨bv, e0, _⟩ := DataW.trod_bool Try.underlying4 k0
    obtain ⟨s, sl, hsl, e1⟩ := trod_adP (by rw [List.length_take, List.length_drop, hs]; decide) k1
    obtain ⟨s', sl', hsl', e2⟩ := trod_adP (by rw [List.length_take, List.length_drop, hs]; decide) k2
    obtain ⟨z3, e3, _, _⟩ := DataW.trod_int Try.underlying3 k3
    obtain ⟨z4, e4, _, _⟩ := DataW.trod_int Try.underlying3 k4
    obtain ⟨z5, e5, _, _⟩ := DataW.trod_int Try.underlying3 k5
    obtain ⟨z6, e6, _, _⟩ := DataW.trod_int Try.underlying3 k6
    obtain ⟨bd, e7, _⟩ := DataW.trod_bool Try.underlying4 k7
    obtain ⟨z8, e8, _, _⟩ := DataW.trod_int Try.underlying3 k8
    obtain ⟨A9, c9, l9, e9, m9, n9, o9, p9⟩ := trod_listU k9 w9
    obtain ⟨A10, c10, l10, e10, m10, n10, o10, p10⟩ := trod_listU k10 w10
    have hc : cs.toList = ipL ⟨bv, s, sl, s', sl', z3, z4, z5, z6, bd, z8, A9, l9.length, c9, A10, l10.length, c10⟩ := by
      have s0 : cs.toList = (cs.toList.drop 0).take 1 ++ cs.toList.drop 1 := by rw [List.drop_zero, List.take_append_drop]
      have s1 : cs.toList.drop 1 = (cs.toList.drop 1).take 17 ++ cs.toList.drop 18 := by
        have := (List.take_append_drop 17 (cs.toList.drop 1)).symm
        rwa [List.drop_drop] at this
      have s2 : cs.toList.drop 18 = (cs.toList.drop 18).take 17 ++ cs.toList.drop 35 := by
        have := (List.take_append_drop 17 (cs.toList.drop 18)).symm
        rwa [List.drop_drop] at this
      have s3 : cs.toList.drop 35 = (cs.toList.drop 35).take 1 ++ cs.toList.drop 36 := by
        have := (List.take_append_drop 1 (cs.toList.drop 35)).symm
        rwa [List.drop_drop] at this
      have s4 : cs.toList.drop 36 = (cs.toList.drop 36).take 1 ++ cs.toList.drop 37 := by
        have := (List.take_append_drop 1 (cs.toList.drop 36)).symm
        rwa [List.drop_drop] at this
      have s5 : cs.toList.drop 37 = (cs.toList.drop 37).take 1 ++ cs.toList.drop 38 := by
        have := (List.take_append_drop 1 (cs.toList.drop 37)).symm
        rwa [List.drop_drop] at this
      have s6 : cs.toList.drop 38 = (cs.toList.drop 38).take 1 ++ cs.toList.drop 39 := by
        have := (List.take_append_drop 1 (cs.toList.drop 38)).symm
        rwa [List.drop_drop] at this
      have s7 : cs.toList.drop 39 = (cs.toList.drop 39).take 1 ++ cs.toList.drop 40 := by
        have := (List.take_append_drop 1 (cs.toList.drop 39)).symm
        rwa [List.drop_drop] at this
      have s8 : cs.toList.drop 40 = (cs.toList.drop 40).take 1 ++ cs.toList.drop 41 := by
        have := (List.take_append_drop 1 (cs.toList.drop 40)).symm
        rwa [List.drop_drop] at this
      have s9 : cs.toList.drop 41 = (cs.toList.drop 41).take 1 ++ cs.toList.drop 42 := by
        have := (List.take_append_drop 1 (cs.toList.drop 41)).symm
        rwa [List.drop_drop] at this
      have s10 : cs.toList.drop 42 = (cs.toList.drop 42).take 1 := by rw [List.take_of_length_le (by rw [List.length_drop, hs]; decide)]
      rw [s0, s1, s2, s3, s4, s5, s6, s7, s8, s9, s10, e0, e1, e2, e3, e4, e5, e6, e7, e8, e9, e10]
      rfl
    have hX : cs = (ipL ⟨bv, s, sl, s', sl', z3, z4, z5, z6, bd, z8, A9, l9.length, c9, A10, l10.length, c10⟩).toArray := by rw [← hc]
    exact ⟨cs, _, l9, l10, rfl, ⟨hX, hsl, hsl'⟩, o9, rfl, m9, by show l9.length ≤ _; omega, p9, o10, rfl, m10, by show l10.length ≤ _; omega, p10⟩
theorem open_rsegU {H : Type} {enc : TypeId × Value → H} {W : World} {r : Reach} {b0 : Nat} {v : Value} {d : DataW H} {p : List MemPlace}
    (hv : Value.okWide Try.prog W r b0 30 v) (h : DataW.Trod enc Try.prog W 0 (fun _ => true) true 30 v d p) (hb : Rows.uptoBulk d ≤ 1048576) :
    ∃ X q O D, v = .agg X ∧ InS W X q O D := by
  obtain ⟨f0, f1, f2, f3, f4, f5, f6, f7, f8, f9, f10, hu, ⟨t0, o0⟩, ⟨t1, o1⟩, ⟨t2, o2⟩, ⟨t3, o3⟩, ⟨t4, o4⟩, ⟨t5, o5⟩, ⟨t6, o6⟩, ⟨t7, o7⟩, ⟨t8, o8⟩, ⟨t9, o9⟩, ⟨t10, o10⟩⟩ := fields_of_rseg
  obtain ⟨cs, rfl, hsz⟩ := okWide_struct hu hv
  obtain ⟨fuel, hf⟩ := h
  obtain ⟨xs, n, rfl, hd, hlen, hxl, hg⟩ := DataW.trod_struct hu hf
  have hg0 := hg 0 f0 rfl
  rw [t0, o0, cells_intP] at hg0
  have hg1 := hg 1 f1 rfl
  rw [t1, o1, cells_intP] at hg1
  have hg2 := hg 2 f2 rfl
  rw [t2, o2, cells_intP] at hg2
  have hg3 := hg 3 f3 rfl
  rw [t3, o3, cells_u32S] at hg3
  have hg4 := hg 4 f4 rfl
  rw [t4, o4, cells_u32S] at hg4
  have hg5 := hg 5 f5 rfl
  rw [t5, o5, cells_intP] at hg5
  have hg6 := hg 6 f6 rfl
  rw [t6, o6, cells_intP] at hg6
  have hg7 := hg 7 f7 rfl
  rw [t7, o7, cells_intP] at hg7
  have hg8 := hg 8 f8 rfl
  rw [t8, o8, cells_bool] at hg8
  have hg9 := hg 9 f9 rfl
  rw [t9, o9, cells_bytesP] at hg9
  have hg10 := hg 10 f10 rfl
  rw [t10, o10, cells_bytesP] at hg10
  have hs : cs.toList.length = 11 := by rw [Array.length_toList, hsz, cells_rseg]
  match xs, hxl with
  | [y0, y1, y2, y3, y4, y5, y6, y7, y8, y9, y10], _ =>
    have k0 : DataW.trod enc Try.prog W 0 (fun _ => true) true n 3 ((cs.toList.drop 0).take 1) = some y0 := hg0
    have k1 : DataW.trod enc Try.prog W 0 (fun _ => true) true n 3 ((cs.toList.drop 1).take 1) = some y1 := hg1
    have k2 : DataW.trod enc Try.prog W 0 (fun _ => true) true n 3 ((cs.toList.drop 2).take 1) = some y2 := hg2
    have k3 : DataW.trod enc Try.prog W 0 (fun _ => true) true n 28 ((cs.toList.drop 3).take 1) = some y3 := hg3
    have k4 : DataW.trod enc Try.prog W 0 (fun _ => true) true n 28 ((cs.toList.drop 4).take 1) = some y4 := hg4
    have k5 : DataW.trod enc Try.prog W 0 (fun _ => true) true n 3 ((cs.toList.drop 5).take 1) = some y5 := hg5
    have k6 : DataW.trod enc Try.prog W 0 (fun _ => true) true n 3 ((cs.toList.drop 6).take 1) = some y6 := hg6
    have k7 : DataW.trod enc Try.prog W 0 (fun _ => true) true n 3 ((cs.toList.drop 7).take 1) = some y7 := hg7
    have k8 : DataW.trod enc Try.prog W 0 (fun _ => true) true n 4 ((cs.toList.drop 8).take 1) = some y8 := hg8
    have k9 : DataW.trod enc Try.prog W 0 (fun _ => true) true n 25 ((cs.toList.drop 9).take 1) = some y9 := hg9
    have k10 : DataW.trod enc Try.prog W 0 (fun _ => true) true n 25 ((cs.toList.drop 10).take 1) = some y10 := hg10
    have hd' : d = .agg [y0.1, y1.1, y2.1, y3.1, y4.1, y5.1, y6.1, y7.1, y8.1, y9.1, y10.1] := by
      have := congrArg Prod.fst hd
      exact this
    have w9 : ∀ elems spare, y9.1 = .slice elems spare → elems.length + spare.length ≤ 140737488351232 := fun elems spare e => by
      have h1 : Rows.uptoBulk y9.1 ≤ Rows.uptoBulkAll [y0.1, y1.1, y2.1, y3.1, y4.1, y5.1, y6.1, y7.1, y8.1, y9.1, y10.1] := bulk_of_mem (by simp)
      have h2 : Rows.uptoBulk y9.1 = Rows.uptoBulkAll elems + Rows.uptoBulkAll spare + 1 := by rw [e, Rows.uptoBulk]
      rw [hd', Rows.uptoBulk] at hb
      have := bulk_count elems
      have := bulk_count spare
      omega
    have w10 : ∀ elems spare, y10.1 = .slice elems spare → elems.length + spare.length ≤ 140737488351232 := fun elems spare e => by
      have h1 : Rows.uptoBulk y10.1 ≤ Rows.uptoBulkAll [y0.1, y1.1, y2.1, y3.1, y4.1, y5.1, y6.1, y7.1, y8.1, y9.1, y10.1] := bulk_of_mem (by simp)
      have h2 : Rows.uptoBulk y10.1 = Rows.uptoBulkAll elems + Rows.uptoBulkAll spare + 1 := by rw [e, Rows.uptoBulk]
      rw [hd', Rows.uptoBulk] at hb
      have := bulk_count elems
      have := bulk_count spare
      omega
    obtain ⟨z0, e0, _, _⟩ := DataW.trod_int Try.underlying3 k0
    obtain ⟨z1, e1, _, _⟩ := DataW.trod_int Try.underlying3 k1
    obtain ⟨z2, e2, _, _⟩ := DataW.trod_int Try.underlying3 k2
    obtain ⟨z3, e3, _, g3⟩ := DataW.trod_int Try.underlying28 k3
    have b3 := bounds_u32 g3
    obtain ⟨n3, rfl⟩ : ∃ n : Nat, z3 = (n : Int) := ⟨z3.toNat, by omega⟩
    obtain ⟨z4, e4, _, g4⟩ := DataW.trod_int Try.underlying28 k4
    have b4 := bounds_u32 g4
    obtain ⟨n4, rfl⟩ : ∃ n : Nat, z4 = (n : Int) := ⟨z4.toNat, by omega⟩
    obtain ⟨z5, e5, _, _⟩ := DataW.trod_int Try.underlying3 k5
    obtain ⟨z6, e6, _, _⟩ := DataW.trod_int Try.underlying3 k6
    obtain ⟨z7, e7, _, _⟩ := DataW.trod_int Try.underlying3 k7
    obtain ⟨z8, e8, _⟩ := DataW.trod_bool Try.underlying4 k8
    obtain ⟨A9, c9, l9, e9, m9, u9, q9, p9⟩ := trod_listU k9 w9
    obtain ⟨A10, c10, l10, e10, m10, u10, q10, p10⟩ := trod_listU k10 w10
    have hc : cs.toList = sgL ⟨z0, z1, z2, n3, n4, z5, z6, z7, z8, A9, l9.length, c9, A10, l10.length, c10⟩ := by
      have s0 : cs.toList = (cs.toList.drop 0).take 1 ++ cs.toList.drop 1 := by rw [List.drop_zero, List.take_append_drop]
      have s1 : cs.toList.drop 1 = (cs.toList.drop 1).take 1 ++ cs.toList.drop 2 := by
        have := (List.take_append_drop 1 (cs.toList.drop 1)).symm
        rwa [List.drop_drop] at this
      have s2 : cs.toList.drop 2 = (cs.toList.drop 2).take 1 ++ cs.toList.drop 3 := by
        have := (List.take_append_drop 1 (cs.toList.drop 2)).symm
        rwa [List.drop_drop] at this
      have s3 : cs.toList.drop 3 = (cs.toList.drop 3).take 1 ++ cs.toList.drop 4 := by
        have := (List.take_append_drop 1 (cs.toList.drop 3)).symm
        rwa [List.drop_drop] at this
      have s4 : cs.toList.drop 4 = (cs.toList.drop 4).take 1 ++ cs.toList.drop 5 := by
        have := (List.take_append_drop 1 (cs.toList.drop 4)).symm
        rwa [List.drop_drop] at this
      have s5 : cs.toList.drop 5 = (cs.toList.drop 5).take 1 ++ cs.toList.drop 6 := by
        have := (List.take_append_drop 1 (cs.toList.drop 5)).symm
        rwa [List.drop_drop] at this
      have s6 : cs.toList.drop 6 = (cs.toList.drop 6).take 1 ++ cs.toList.drop 7 := by
        have := (List.take_append_drop 1 (cs.toList.drop 6)).symm
        rwa [List.drop_drop] at this
      have s7 : cs.toList.drop 7 = (cs.toList.drop 7).take 1 ++ cs.toList.drop 8 := by
        have := (List.take_append_drop 1 (cs.toList.drop 7)).symm
        rwa [List.drop_drop] at this
      have s8 : cs.toList.drop 8 = (cs.toList.drop 8).take 1 ++ cs.toList.drop 9 := by
        have := (List.take_append_drop 1 (cs.toList.drop 8)).symm
        rwa [List.drop_drop] at this
      have s9 : cs.toList.drop 9 = (cs.toList.drop 9).take 1 ++ cs.toList.drop 10 := by
        have := (List.take_append_drop 1 (cs.toList.drop 9)).symm
        rwa [List.drop_drop] at this
      have s10 : cs.toList.drop 10 = (cs.toList.drop 10).take 1 := by rw [List.take_of_length_le (by rw [List.length_drop, hs]; decide)]
      rw [s0, s1, s2, s3, s4, s5, s6, s7, s8, s9, s10, e0, e1, e2, e3, e4, e5, e6, e7, e8, e9, e10]
      rfl
    have hX : cs = (sgL ⟨z0, z1, z2, n3, n4, z5, z6, z7, z8, A9, l9.length, c9, A10, l10.length, c10⟩).toArray := by rw [← hc]
    exact ⟨cs, _, l9, l10, rfl, ⟨hX, by show n3 < _; omega, by show n4 < _; omega⟩, q9, rfl, m9, by show l9.length ≤ _; omega, p9, q10, rfl, m10, by show l10.length ≤ _; omega, p10⟩
end Go.Proofs.Ytcfckhdohcaffaa
