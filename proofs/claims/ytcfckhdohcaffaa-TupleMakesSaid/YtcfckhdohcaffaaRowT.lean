/-
  Words for the rows whose arguments are tuples: opened to their two addresses and their three numbers.
-/
import Derived.Test.YtcfckhdohcaffaaRowA
import Derived.Test.YtcfckhdohcaffaaTup
namespace Go.Proofs.Ytcfckhdohcaffaa
open Go.ChangeShapes Go.WideShapes Go.ChangeAt Go.RowKit
set_option maxRecDepth 100000
set_option linter.unusedVariables false

theorem cells_int : Try.prog.cellsOf 3 = 1 := by kernel_rfl
theorem cells_tup : Try.prog.cellsOf 52 = 37 := by kernel_rfl
theorem fields_of_tup : ∃ f0 f1 f2 f3 f4 : Field, Try.prog.underlying 52 = some (.struct #[f0, f1, f2, f3, f4]) ∧ (f0.type = 24 ∧ f0.offset = 0) ∧ (f1.type = 24 ∧ f1.offset = 17) ∧ (f2.type = 3 ∧ f2.offset = 34) ∧ (f3.type = 3 ∧ f3.offset = 35) ∧ (f4.type = 3 ∧ f4.offset = 36) := ⟨_, _, _, _, _, Try.underlying52, ⟨rfl, rfl⟩, ⟨rfl, rfl⟩, ⟨rfl, rfl⟩, ⟨rfl, rfl⟩, rfl, rfl⟩
theorem trod_ad {H : Type} {enc : TypeId × Value → H} {W : World} {base : Nat} {spare : Nat → Bool} {held : Bool} {fuel : Nat} {cs : List Value} {x : DataW H × List MemPlace} (hsz : cs.length = 17) (h : DataW.trod enc Try.prog W base spare held fuel 24 cs = some x) :
    ∃ k l, l.length = 16 ∧ cs = adL k l := by
  obtain ⟨f0, f1, hu, t0, o0, t1, o1⟩ := fields_of_ad
  obtain ⟨xs, n, rfl, _, hlen, hxl, hg⟩ := DataW.trod_struct hu h
  have hg0 := hg 0 f0 rfl
  have hg1 := hg 1 f1 rfl
  rw [t0, o0, cells_bool] at hg0
  rw [t1, o1, cells_arr] at hg1
  match xs, hxl with
  | [y0, y1], _ =>
    have hg0' : DataW.trod enc Try.prog W base spare held n 4 ((cs.drop 0).take 1) = some y0 := hg0
    have hg1' : DataW.trod enc Try.prog W base spare held n 22 ((cs.drop 1).take 16) = some y1 := hg1
    obtain ⟨k, hk, _⟩ := DataW.trod_bool Try.underlying4 hg0'
    obtain ⟨l, hl, hcs⟩ := trod_bytes16 hg1'
    refine ⟨k, l, hl, ?_⟩
    have e : cs = (cs.drop 0).take 1 ++ (cs.drop 1).take 16 := by
      rw [List.drop_zero, List.take_of_length_le (l := cs.drop 1) (by rw [List.length_drop, hsz]; decide), List.take_append_drop]
    rw [e, hk, hcs]
    rfl
theorem open_tup {H : Type} {enc : TypeId × Value → H} {W : World} {r : Reach} {b0 : Nat} {base : Nat} {spare : Nat → Bool} {held : Bool} {v : Value} {d : DataW H} {p : List MemPlace}
    (hv : Value.okWide Try.prog W r b0 52 v) (h : DataW.Trod enc Try.prog W base spare held 52 v d p) :
    ∃ X t, v = .agg X ∧ TuV X t := by
  obtain ⟨f0, f1, f2, f3, f4, hu, ⟨t0, o0⟩, ⟨t1, o1⟩, ⟨t2, o2⟩, ⟨t3, o3⟩, t4, o4⟩ := fields_of_tup
  obtain ⟨cs, rfl, hsz⟩ := okWide_struct hu hv
  obtain ⟨fuel, hf⟩ := h
  obtain ⟨xs, n, rfl, _, hlen, hxl, hg⟩ := DataW.trod_struct hu hf
  have hg0 := hg 0 f0 rfl
  have hg1 := hg 1 f1 rfl
  have hg2 := hg 2 f2 rfl
  have hg3 := hg 3 f3 rfl
  have hg4 := hg 4 f4 rfl
  rw [t0, o0, cells_ad] at hg0
  rw [t1, o1, cells_ad] at hg1
  rw [t2, o2, cells_int] at hg2
  rw [t3, o3, cells_int] at hg3
  rw [t4, o4, cells_int] at hg4
  have hs : cs.toList.length = 37 := by rw [Array.length_toList, hsz, cells_tup]
  match xs, hxl with
  | [y0, y1, y2, y3, y4], _ =>
    have h0 : DataW.trod enc Try.prog W base spare held n 24 ((cs.toList.drop 0).take 17) = some y0 := hg0
    have h1 : DataW.trod enc Try.prog W base spare held n 24 ((cs.toList.drop 17).take 17) = some y1 := hg1
    have h2 : DataW.trod enc Try.prog W base spare held n 3 ((cs.toList.drop 34).take 1) = some y2 := hg2
    have h3 : DataW.trod enc Try.prog W base spare held n 3 ((cs.toList.drop 35).take 1) = some y3 := hg3
    have h4 : DataW.trod enc Try.prog W base spare held n 3 ((cs.toList.drop 36).take 1) = some y4 := hg4
    obtain ⟨k, l, hl, e0⟩ := trod_ad (by rw [List.length_take, List.length_drop, hs]; decide) h0
    obtain ⟨k', l', hl', e1⟩ := trod_ad (by rw [List.length_take, List.length_drop, hs]; decide) h1
    obtain ⟨z2, e2, _, _⟩ := DataW.trod_int Try.underlying3 h2
    obtain ⟨z3, e3, _, _⟩ := DataW.trod_int Try.underlying3 h3
    obtain ⟨z4, e4, _, _⟩ := DataW.trod_int Try.underlying3 h4
    have hc : cs.toList = tupL ⟨k, l, k', l', z2, z3, z4⟩ := by
      have s0 : cs.toList = (cs.toList.drop 0).take 17 ++ cs.toList.drop 17 := by rw [List.drop_zero, List.take_append_drop]
      have s1 : cs.toList.drop 17 = (cs.toList.drop 17).take 17 ++ cs.toList.drop 34 := by
        have := (List.take_append_drop 17 (cs.toList.drop 17)).symm
        rwa [List.drop_drop] at this
      have s2 : cs.toList.drop 34 = (cs.toList.drop 34).take 1 ++ cs.toList.drop 35 := by
        have := (List.take_append_drop 1 (cs.toList.drop 34)).symm
        rwa [List.drop_drop] at this
      have s3 : cs.toList.drop 35 = (cs.toList.drop 35).take 1 ++ cs.toList.drop 36 := by
        have := (List.take_append_drop 1 (cs.toList.drop 35)).symm
        rwa [List.drop_drop] at this
      have s4 : cs.toList.drop 36 = (cs.toList.drop 36).take 1 := by rw [List.take_of_length_le (by rw [List.length_drop, hs]; decide)]
      rw [s0, s1, s2, s3, s4, e0, e1, e2, e3, e4]
      rfl
    have hX : cs = (tupL ⟨k, l, k', l', z2, z3, z4⟩).toArray := by rw [← hc]
    exact ⟨cs, _, rfl, ⟨hX, hl, hl'⟩⟩
end Go.Proofs.Ytcfckhdohcaffaa
