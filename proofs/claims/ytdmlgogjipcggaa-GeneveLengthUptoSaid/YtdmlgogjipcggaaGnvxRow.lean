/-
  Proved: whatever the way and the tunnel, GeneveLength returns true (a frame is as long as the document says, and fits the way's greatest or not), and the arguments read as they read before, where all that comes in is of bulk at most 1048576.
-/
import Derived.Test.YtdmlgogjipcggaaRowP
import Derived.Test.YtdmlgogjipcggaaGnt
import Derived.Test.YtdmlgogjipcggaaRow
import Derived.JoinedCond
import Derived.Test.YtdmlgogjipcggaaRowO
import Derived.Test.YtdmlgogjipcggaaGnvx
section
namespace Go.Proofs.Ytdmlgogjipcggaa
open Go.ChangeShapes Go.WideShapes Go.ChangeAt Go.RowKit
set_option maxRecDepth 100000
set_option linter.unusedVariables false
set_option linter.constructorNameAsVariable false

theorem cells_rpa : Try.prog.cellsOf 49 = 37 := by kernel_rfl
theorem fields_of_rpa : ∃ f0 f1 f2 f3 f4 : Field, Try.prog.underlying 49 = some (.struct #[f0, f1, f2, f3, f4]) ∧ (f0.type = 44 ∧ f0.offset = 0) ∧ (f1.type = 44 ∧ f1.offset = 17) ∧ (f2.type = 3 ∧ f2.offset = 34) ∧ (f3.type = 3 ∧ f3.offset = 35) ∧ (f4.type = 3 ∧ f4.offset = 36) := ⟨_, _, _, _, _, Try.underlying49, ⟨rfl, rfl⟩, ⟨rfl, rfl⟩, ⟨rfl, rfl⟩, ⟨rfl, rfl⟩, ⟨rfl, rfl⟩⟩
/-- a way as it came in. -/
theorem open_rpa {H : Type} {enc : TypeId × Value → H} {W : World} {r : Reach} {b0 : Nat} {v : Value} {d : DataW H} {p : List MemPlace}
    (hv : Value.okWide Try.prog W r b0 49 v) (h : DataW.Trod enc Try.prog W 0 (fun _ => true) true 49 v d p) :
    ∃ X q, v = .agg X ∧ PaV X q := by
  obtain ⟨f0, f1, f2, f3, f4, hu, ⟨t0, o0⟩, ⟨t1, o1⟩, ⟨t2, o2⟩, ⟨t3, o3⟩, ⟨t4, o4⟩⟩ := fields_of_rpa
  obtain ⟨cs, rfl, hsz⟩ := okWide_struct hu hv
  obtain ⟨fuel, hf⟩ := h
  obtain ⟨xs, n, rfl, hd, hlen, hxl, hg⟩ := DataW.trod_struct hu hf
  have hg0 := hg 0 f0 rfl
  rw [t0, o0, cells_ad] at hg0
  have hg1 := hg 1 f1 rfl
  rw [t1, o1, cells_ad] at hg1
  have hg2 := hg 2 f2 rfl
  rw [t2, o2, cells_intP] at hg2
  have hg3 := hg 3 f3 rfl
  rw [t3, o3, cells_intP] at hg3
  have hg4 := hg 4 f4 rfl
  rw [t4, o4, cells_intP] at hg4
  have hs : cs.toList.length = 37 := by rw [Array.length_toList, hsz, cells_rpa]
  match xs, hxl with
  | [y0, y1, y2, y3, y4], _ =>
    have k0 : DataW.trod enc Try.prog W 0 (fun _ => true) true n 44 ((cs.toList.drop 0).take 17) = some y0 := hg0
    have k1 : DataW.trod enc Try.prog W 0 (fun _ => true) true n 44 ((cs.toList.drop 17).take 17) = some y1 := hg1
    have k2 : DataW.trod enc Try.prog W 0 (fun _ => true) true n 3 ((cs.toList.drop 34).take 1) = some y2 := hg2
    have k3 : DataW.trod enc Try.prog W 0 (fun _ => true) true n 3 ((cs.toList.drop 35).take 1) = some y3 := hg3
    have k4 : DataW.trod enc Try.prog W 0 (fun _ => true) true n 3 ((cs.toList.drop 36).take 1) = some y4 := hg4
    obtain ⟨s, sl, hsl, e0⟩ := trod_adP (by rw [List.length_take, List.length_drop, hs]; decide) k0
    obtain ⟨s', sl', hsl', e1⟩ := trod_adP (by rw [List.length_take, List.length_drop, hs]; decide) k1
    obtain ⟨z2, e2, _, _⟩ := DataW.trod_int Try.underlying3 k2
    obtain ⟨z3, e3, _, _⟩ := DataW.trod_int Try.underlying3 k3
    obtain ⟨z4, e4, _, _⟩ := DataW.trod_int Try.underlying3 k4
    have hc : cs.toList = paL ⟨s, sl, s', sl', z2, z3, z4⟩ := by
      have s0 : cs.toList = (cs.toList.drop 0).take 17 ++ cs.toList.drop 17 := by rw [List.drop_zero, List.take_append_drop]
      have s1 : cs.toList.drop 17 = (cs.toList.drop 17).take 17 ++ cs.toList.drop 34 := by
        have := (List.take_append_drop 17 (cs.toList.drop 17)).symm
        rwa [List.drop_drop] at this
      have s2 : cs.toList.drop 34 = (cs.toList.drop 34).take 1 ++ cs.toList.drop 35 := by
        have := (List.take_append_drop 1 (cs.toList.drop 34)).symm
        rwa [List.drop_drop] at this
      have s3 : cs.toList.drop 35 = (cs.toList.drop 35).take 1 ++ cs.toList.drop 36 := by
        have := (List.take_append_drop 1 (cs.toList.drop 35)).symm
        rwa [List.drop_drop] at this
      have s4 : cs.toList.drop 36 = (cs.toList.drop 36).take 1 := by rw [List.take_of_length_le (by rw [List.length_drop, hs]; decide)]
      rw [s0, s1, s2, s3, s4, e0, e1, e2, e3, e4]
      rfl
    have hX : cs = (paL ⟨s, sl, s', sl', z2, z3, z4⟩).toArray := by rw [← hc]
    exact ⟨cs, _, rfl, ⟨hX, hsl, hsl'⟩⟩
end Go.Proofs.Ytdmlgogjipcggaa
end

section
namespace Go.Proofs.Ytdmlgogjipcggaa.geneveLengthRow
open Go.ChangeShapes Go.WideShapes Go.ChangeAt Go.RowKit
set_option linter.unusedVariables false

set_option maxHeartbeats 2000000 in
set_option maxRecDepth 100000 in
theorem lifted (os : Os) (started : os.Started) (H : Type) (enc : TypeId × Value → H) (F : Stop.Interp) :
    ReturnsInHanded {} Try.checked os 5 .any ((Rows.OpenSpec.upto Rows.geneveLengthSpec).pre6 enc Try.prog Try.f5 Rows.geneveLengthUptoRow.domain false) (((Rows.OpenSpec.upto Rows.geneveLengthSpec).at F).post enc Try.prog Try.f5 false true false false) := by
  refine returnsInHanded_of_cond (C := Try.checked) (s := Rows.OpenSpec.upto Rows.geneveLengthSpec) (k := Rows.uptoSmall) rfl ownK started (by kernel_rfl) Try.func5
    (OpenSpec.witness (enc := enc) (C := Try.checked) (s := Rows.OpenSpec.upto Rows.geneveLengthSpec) (k := Rows.uptoSmall) rfl false ⟨#[], #[.agg #[.bool false, .int .u8 0, .int .u8 0, .int .u8 0, .int .u8 0, .int .u8 0, .int .u8 0, .int .u8 0, .int .u8 0, .int .u8 0, .int .u8 0, .int .u8 0, .int .u8 0, .int .u8 0, .int .u8 0, .int .u8 0, .int .u8 0, .bool false, .int .u8 0, .int .u8 0, .int .u8 0, .int .u8 0, .int .u8 0, .int .u8 0, .int .u8 0, .int .u8 0, .int .u8 0, .int .u8 0, .int .u8 0, .int .u8 0, .int .u8 0, .int .u8 0, .int .u8 0, .int .u8 0, .int .i64 0, .int .i64 0, .int .i64 0], .agg #[.bool false, .int .i64 0, .int .i64 0, .slice none 0 0, .slice none 0 0]], []⟩ 8 (by kernel_rfl) (by kernel_rfl) (by kernel_rfl)
      (x := ([.agg [.agg [.lit (.bool false), .agg [.lit (.int .u8 0), .lit (.int .u8 0), .lit (.int .u8 0), .lit (.int .u8 0), .lit (.int .u8 0), .lit (.int .u8 0), .lit (.int .u8 0), .lit (.int .u8 0), .lit (.int .u8 0), .lit (.int .u8 0), .lit (.int .u8 0), .lit (.int .u8 0), .lit (.int .u8 0), .lit (.int .u8 0), .lit (.int .u8 0), .lit (.int .u8 0)]], .agg [.lit (.bool false), .agg [.lit (.int .u8 0), .lit (.int .u8 0), .lit (.int .u8 0), .lit (.int .u8 0), .lit (.int .u8 0), .lit (.int .u8 0), .lit (.int .u8 0), .lit (.int .u8 0), .lit (.int .u8 0), .lit (.int .u8 0), .lit (.int .u8 0), .lit (.int .u8 0), .lit (.int .u8 0), .lit (.int .u8 0), .lit (.int .u8 0), .lit (.int .u8 0)]], .lit (.int .i64 0), .lit (.int .i64 0), .lit (.int .i64 0)], .agg [.lit (.bool false), .lit (.int .i64 0), .lit (.int .i64 0), .nil, .nil]], [], [])) (by kernel_rfl) rfl (by kernel_rfl)) ?_
  intro W base args ds gs before hval0 hW _ hk _
  have hval : ∀ (j : Nat) t v, Try.f5.params[j]? = some t → args[j]? = some v → Value.okWide Try.prog W .any base t v := hval0
  have hW' := hW
  obtain ⟨p, q, hA0, hV, rfl, hfz, hnd⟩ := hW
  have hA : DataW.TrodAll enc Try.prog W 0 (fun _ => true) true Try.f5.params.toList args.toList ds p := hA0
  rw [Try.params5] at hA hval
  obtain ⟨v0, vs0, d0, ds0, p0, q0, hargs, rfl, rfl, h0, r0⟩ := trodAll_cons hA
  obtain ⟨v1, vs1, d1, ds1, p1, q1, rfl, rfl, rfl, h1, r1⟩ := trodAll_cons r0
  obtain ⟨rfl, rfl, rfl⟩ := trodAll_nil r1
  obtain rfl : args = #[v0, v1] := by cases args; simp_all
  obtain ⟨rfl, rfl⟩ := trodVars_none hV
  have k0 := h0
  have lt0 : ∀ x ∈ p0, x.block < W.heap.size := by obtain ⟨m, hm⟩ := k0; exact DataW.trod_lt m _ _ _ hm
  obtain ⟨x0, t0, rfl, hX0⟩ := open_rpa (hval 0 49 v0 rfl rfl) h0
  have k1 := h1
  have lt1 : ∀ x ∈ p1, x.block < W.heap.size := by obtain ⟨m, hm⟩ := k1; exact DataW.trod_lt m _ _ _ hm
  obtain ⟨x1, t1, rfl, hX1, hl1, hs1, hD1, hd1⟩ := open_rtunO (hval 1 25 v1 rfl rfl) h1 (Nat.le_trans (bulk_of_mem (by simp)) (of_decide_eq_true hk))
  clear hA0 hval0
  refine (geneveLength_any W x0 x1 t0 t1 hX0 hX1 ⟨hl1, hs1, hD1, hd1⟩).mono fun e W' ⟨he, bel⟩ => ?_
  subst he
  exact ⟨_, rfl, _, _, _, [], _, [], hW', trodAll_mk1 (shut_bool Try.underlying4 _), (trodAll_cons_mk (Below.trod laidOutK (by kernel_rfl) (of_decide_eq_true (by kernel_rfl)) k0 bel lt0) (trodAll_cons_mk (Below.trod laidOutK (by kernel_rfl) (of_decide_eq_true (by kernel_rfl)) k1 bel lt1) trodAll_mk0)), rfl, bel.frame _, fun h => by cases h⟩

theorem proved : Rows.GeneveLengthUptoSaid :=
  OpenClaim.holds_of_cond 5 Try.f5 rfl rfl rfl rfl rfl rfl rfl ⟨rfl, rfl, rfl, rfl, rfl⟩ rfl rfl rfl rfl rfl (by kernel_rfl) Try.func5 (by kernel_rfl)
    (of_decide_eq_true (by kernel_rfl)) (by unfold Func.isWrapper; first | (rw [if_pos (by decide +kernel)]; kernel_rfl) | (rw [if_neg (by decide +kernel)]; exact ⟨rfl, rfl⟩))
    (fun os started H enc _ F => lifted os started H enc F)
#print axioms proved
end Go.Proofs.Ytdmlgogjipcggaa.geneveLengthRow
end
