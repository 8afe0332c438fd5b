/-
  Proved: however many replicas there are, and whatever is heard, MemberBack returns true (a view's bytes are how it sees all; whoever hears all that of others sees them no older), and each argument reads as it read before. No condition.
-/
import Derived.Test.YtpbgbfmpjgkllaaRow
import Derived.Test.YtpbgbfmpjgkllaaMbb
import Derived.Test.YtpbgbfmpjgkllaaRowM
import Derived.Deep.SlicePairs
namespace Go.Proofs.Ytpbgbfmpjgkllaa
open Go.ChangeShapes Go.WideShapes Go.ChangeAt Go.RowKit Go.Deep
set_option linter.unusedVariables false
set_option maxRecDepth 100000

theorem bytes_actM : Try.prog.bytesOf 40 = 32 := by kernel_rfl
theorem cells_actM : Try.prog.cellsOf 40 = 4 := by kernel_rfl
theorem le_actsM {n : Nat} (h : n * Try.prog.bytesOf 40 ≤ 140737488351232) : n * Try.prog.bytesOf 5 ≤ 8796093022208 := by rw [bytes_actM] at h; rw [bytes_u8]; omega
theorem fields_actM : ∃ f0 f1 f2 : Field, Try.prog.underlying 40 = some (.struct #[f0, f1, f2]) ∧ (f0.type = 3 ∧ f0.offset = 0) ∧ (f1.type = 3 ∧ f1.offset = 1) ∧ (f2.type = 23 ∧ f2.offset = 2) := ⟨_, _, _, Try.underlying40, ⟨rfl, rfl⟩, ⟨rfl, rfl⟩, ⟨rfl, rfl⟩⟩
theorem open_actsM (K : Nat) {H : Type} {enc : TypeId × Value → H} {W : World} {a0 : Option Addr} {len cap : Nat} {d : DataW H} {p : List MemPlace}
    (h : DataW.Trod enc Try.prog W 0 (fun _ => true) true 32 (.slice a0 len cap) d p)
    (hsz : ∀ elems spare, d = .slice elems spare → (elems.length + spare.length) * Try.prog.bytesOf 5 ≤ K) :
    ∃ l : List (Int × (Int × Int)), len = l.length ∧ l.length ≤ cap ∧ cap ≤ K ∧ ActM W W.heap.size a0 l := by
  obtain ⟨fuel, hf⟩ := h
  obtain ⟨f0, f1, f2, he, ⟨t0, o0⟩, ⟨t1, o1⟩, ⟨t2, o2⟩⟩ := fields_actM
  rcases open_slice Try.underlying32 hf with ⟨hcs, _⟩ | ⟨x, l, c, m, n, D, Pl, hcs, hb, hl, hm, hmm, hx, hcell⟩
  · simp [Value.cells] at hcs
    obtain ⟨rfl, rfl, rfl⟩ := hcs
    exact ⟨[], rfl, by simp, by omega, fun hp => absurd hp (by simp)⟩
  · simp [Value.cells] at hcs
    obtain ⟨rfl, rfl, rfl⟩ := hcs
    obtain rfl : m = cap := by simpa using hmm
    simp only [Prod.mk.injEq] at hx
    have hs := hsz _ _ hx.1
    rw [bytes_u8] at hs
    simp only [List.length_map, List.length_range] at hs
    have each : ∀ i, i < m → ∃ q : Int × (Int × Int), (∃ u, W.cell? (x.add (i * 4)) = some u) ∧ W.cell? (x.add (i * 4 + 1)) = some (.int .i64 q.1) ∧ W.cell? (x.add (i * 4 + 2)) = some (.int .i64 q.2.1) ∧ W.cell? (x.add (i * 4 + 3)) = some (.int .i64 q.2.2) := fun i hi => by
      obtain ⟨cs', h1, h2⟩ := hcell i hi
      rw [cells_actM] at h1
      obtain ⟨_, hlen, hc⟩ := World.cells?_some h1
      obtain ⟨xs, k, hk, hxy, _, hxl, hff⟩ := DataW.trod_struct he h2
      match xs, hxl, cs', hlen with
      | [y0, y1, y2], _, [v0, v1, v2, v3], _ =>
        have g1 := hff 1 f1 rfl
        have g2 := hff 2 f2 rfl
        rw [t1, o1, cells_intM] at g1
        rw [t2, o2, cells_rinfM] at g2
        have e0 := hc 0 (by omega)
        have e1 := hc 1 (by omega)
        have e2 := hc 2 (by omega)
        have e3 := hc 3 (by omega)
        rw [add_add] at e0 e1 e2 e3
        obtain ⟨z1, hz1, _, _⟩ := DataW.trod_int Try.underlying3 g1
        obtain ⟨q, hq⟩ := trod_rinfM (by simp) g2
        simp at hz1 hq
        refine ⟨(z1, q), ⟨v0, by simpa using e0⟩, ?_, ?_, ?_⟩
        · rw [← hz1]; simpa using e1
        · rw [← hq.1]; simpa using e2
        · rw [← hq.2]; simpa using e3
    obtain ⟨q, hq⟩ := choose_lt each
    refine ⟨(List.range len).map q, by simp, by simp; omega, by omega, fun hpos => ?_⟩
    simp at hpos
    obtain ⟨b, off, spot⟩ := x
    obtain ⟨⟨u0, h0⟩, _⟩ := hq 0 (by omega)
    have hspot : spot = none := by
      have := World.cell?_spot h0
      simpa [Addr.add] using this
    subst hspot
    have hlt : b < W.heap.size := by
      have := World.block_lt_of_cell? W _ h0
      rwa [block_of_add] at this
    refine ⟨b, off, rfl, hlt, fun i hi => ?_⟩
    simp at hi
    obtain ⟨-, h1, h2, h3⟩ := hq i (by omega)
    rw [add_none] at h1 h2 h3
    simp only [List.getElem_map, List.getElem_range]
    exact ⟨by rw [Nat.add_assoc]; exact h1, by rw [Nat.add_assoc]; exact h2, by rw [Nat.add_assoc, Nat.add_assoc]; exact h3⟩
end Go.Proofs.Ytpbgbfmpjgkllaa
namespace Go.Proofs.Ytpbgbfmpjgkllaa.memberBackRow
open Go.ChangeShapes Go.WideShapes Go.ChangeAt Go.RowKit
set_option linter.unusedVariables false

set_option maxRecDepth 100000 in
theorem lifted (os : Os) (started : os.Started) (H : Type) (enc : TypeId × Value → H) :
    ReturnsInHanded {} Try.checked os 7 .any (Rows.memberBackSpec.pre6 enc Try.prog Try.f7 Rows.memberBackRow.domain false) (Rows.memberBackSpec.post enc Try.prog Try.f7 false true false false) := by
  refine returnsInHanded_of_change_sized (C := Try.checked) ownK started (by kernel_rfl) Try.func7
    (ChangeSpec.witness6 (enc := enc) (C := Try.checked) false ⟨#[], #[.int .i64 0, .slice none 0 0, .slice none 0 0], []⟩ 8 (by kernel_rfl) (by kernel_rfl) (by kernel_rfl) (by kernel_rfl)) ?_
  intro W base args ds gs before hval0 hW hcnd hsz0 _
  have hval : ∀ (j : Nat) t v, Try.f7.params[j]? = some t → args[j]? = some v → Value.okWide Try.prog W .any base t v := hval0
  have hsz : (DataW.weightsEach Try.prog (Try.f7.params.toList ++ Rows.memberBackSpec.plain.varTypes Try.prog) (ds ++ gs)).all (· ≤ reachBytes) = true := hsz0
  clear hsz0
  have hW' := hW
  obtain ⟨p, q, hA0, hV, rfl, hfz, hnd⟩ := hW
  have hA : DataW.TrodAll enc Try.prog W 0 (fun _ => true) true Try.f7.params.toList args.toList ds p := hA0
  rw [Try.params7] at hA hval hsz
  obtain ⟨v0, vs0, d0, ds0, p0, q0, hargs, rfl, rfl, h0, r0⟩ := trodAll_cons hA
  obtain ⟨v1, vs1, d1, ds1, p1, q1, rfl, rfl, rfl, h1, r1⟩ := trodAll_cons r0
  obtain ⟨v2, vs2, d2, ds2, p2, q2, rfl, rfl, rfl, h2, r2⟩ := trodAll_cons r1
  obtain ⟨rfl, rfl, rfl⟩ := trodAll_nil r2
  obtain rfl : args = #[v0, v1, v2] := by cases args; simp_all
  obtain ⟨rfl, rfl⟩ := trodVars_none hV
  obtain ⟨z0, rfl, rfl, rfl, wf0⟩ := open_int Try.underlying3 (hval 0 3 v0 rfl rfl) h0
  have bd0 := bounds_i64 wf0
  obtain ⟨a1, len1, c1, rfl⟩ := okWide_slice Try.underlying32 (hval 1 32 v1 rfl rfl)
  have k1 := h1
  have lt1 : ∀ x ∈ p1, x.block < W.heap.size := by obtain ⟨m, hm⟩ := k1; exact DataW.trod_lt m _ _ _ hm
  obtain ⟨l1, rfl, hl1, hc1, hb1⟩ := open_actsM 8796093022208 h1 (fun elems spare e => le_actsM (sized_slice hsz (j := 1) (t := 32) (e := 40) rfl (by rw [e]; rfl) Try.underlying32))
  obtain ⟨a2, len2, c2, rfl⟩ := okWide_slice Try.underlying32 (hval 2 32 v2 rfl rfl)
  have k2 := h2
  have lt2 : ∀ x ∈ p2, x.block < W.heap.size := by obtain ⟨m, hm⟩ := k2; exact DataW.trod_lt m _ _ _ hm
  obtain ⟨l2, rfl, hl2, hc2, hb2⟩ := open_actsM 8796093022208 h2 (fun elems spare e => le_actsM (sized_slice hsz (j := 2) (t := 32) (e := 40) rfl (by rw [e]; rfl) Try.underlying32))
  clear hA0 hval0
  refine (memberBack_any W z0 a1 c1 l1 a2 c2 l2 hb1 hb2).mono fun e W' ⟨he, bel⟩ => ?_
  subst he
  exact ⟨_, rfl, _, _, _, [], _, [], hW', trodAll_mk1 (shut_bool Try.underlying4 _), (trodAll_cons_mk (shut_int Try.underlying3 wf0) (trodAll_cons_mk (Below.trod laidOutK (by kernel_rfl) (of_decide_eq_true (by kernel_rfl)) k1 bel lt1) (trodAll_cons_mk (Below.trod laidOutK (by kernel_rfl) (of_decide_eq_true (by kernel_rfl)) k2 bel lt2) trodAll_mk0))), rfl, bel.frame _, fun h => by cases h⟩

theorem over : Rows.memberBackRow.holds Try.pinned (OpenSpec.ofChange Rows.memberBackSpec) :=
  OpenClaim.holds_of_wide 7 Try.f7 rfl rfl rfl rfl rfl rfl rfl ⟨rfl, rfl, rfl, rfl, rfl⟩ rfl rfl rfl rfl rfl (by kernel_rfl) Try.func7 (by kernel_rfl)
    (of_decide_eq_true (by kernel_rfl)) (by unfold Func.isWrapper; first | (rw [if_pos (by decide +kernel)]; kernel_rfl) | (rw [if_neg (by decide +kernel)]; exact ⟨rfl, rfl⟩))
    (fun os started H enc _ => lifted os started H enc)

theorem proved : Rows.MemberBackSaid := over
#print axioms proved
end Go.Proofs.Ytpbgbfmpjgkllaa.memberBackRow
