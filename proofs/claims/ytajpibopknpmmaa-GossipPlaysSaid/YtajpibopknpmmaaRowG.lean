/-
  Words for the rows whose argument is a slice of calls of a queue: opened to a list of numbers and bytes.
-/
import Derived.Test.YtajpibopknpmmaaRow
import Derived.Test.YtajpibopknpmmaaRowF
import Derived.Deep.SlicePairs
namespace Go.Proofs.Ytajpibopknpmmaa
open Go.ChangeShapes Go.WideShapes Go.ChangeAt Go.RowKit Go.Deep
set_option linter.unusedVariables false
set_option maxRecDepth 100000

/-- a call. -/
structure Act15 where
  kind : Int
  key : Int
  b : List UInt8
  times : Int
deriving Inhabited
/-- what always holds of one. -/
def OkAct (a : Act15) : Prop := (-9223372036854775808 ≤ a.key ∧ a.key ≤ 9223372036854775807) ∧ (-9223372036854775808 ≤ a.times ∧ a.times ≤ 9223372036854775807) ∧ a.b.length ≤ 140737488351232
/-- a call, from one address on. -/
def ActAt (w : World) (B b o : Nat) (a : Act15) : Prop :=
  w.cell? ⟨b, o, none⟩ = some (.int .i64 a.kind) ∧ w.cell? ⟨b, o + 1, none⟩ = some (.int .i64 a.key) ∧ (∃ D c, w.cell? ⟨b, o + 2, none⟩ = some (.slice D a.b.length c) ∧ a.b.length ≤ c ∧ Byt w B D a.b) ∧ w.cell? ⟨b, o + 3, none⟩ = some (.int .i64 a.times)
/-- the slice that begins at A reads, below block B, as these calls. -/
def Acts15 (w : World) (B : Nat) (A : Option Addr) (l : List Act15) : Prop :=
  0 < l.length → ∃ b off, A = some ⟨b, off, none⟩ ∧ b < B ∧ ∀ i (h : i < l.length), ActAt w B b (off + i * 4) l[i]
theorem bytes_act15 : Try.prog.bytesOf 32 = 48 := by kernel_rfl
theorem cells_act15 : Try.prog.cellsOf 32 = 4 := by kernel_rfl
theorem cells_int15 : Try.prog.cellsOf 3 = 1 := by kernel_rfl
theorem cells_bytes15 : Try.prog.cellsOf 30 = 1 := by kernel_rfl
theorem fields_act15 : ∃ f0 f1 f2 f3 : Field, Try.prog.underlying 32 = some (.struct #[f0, f1, f2, f3]) ∧ (f0.type = 3 ∧ f0.offset = 0) ∧ (f1.type = 3 ∧ f1.offset = 1) ∧ (f2.type = 30 ∧ f2.offset = 2) ∧ (f3.type = 3 ∧ f3.offset = 3) :=
  ⟨_, _, _, _, Try.underlying32, ⟨rfl, rfl⟩, ⟨rfl, rfl⟩, ⟨rfl, rfl⟩, ⟨rfl, rfl⟩⟩
theorem weights15 {H : Type} {P : Program} {e : TypeId} {d : DataW H} {x : Nat} : ∀ {l : List (DataW H)}, d ∈ l → x ∈ d.weights P e → x ∈ DataW.weightsAll P e l
  | [], h, _ => by simp at h
  | d' :: r, h, hx => by
    rw [DataW.weightsAll]
    rcases List.mem_cons.1 h with rfl | h
    · exact List.mem_append_left _ hx
    · exact List.mem_append_right _ (weights15 h hx)
theorem each15 {H : Type} {enc : TypeId × Value → H} {W : World} {fuel : Nat} {cs : List Value} {x : DataW H × List MemPlace} (hsz : cs.length = 4) (h : DataW.trod enc Try.prog W 0 (fun _ => true) true fuel 32 cs = some x)
    (hw : ∀ y ∈ x.1.weights Try.prog 32, y ≤ 140737488351232) :
    ∃ (a : Act15) (D : Option Addr) (c : Nat), cs = [.int .i64 a.kind, .int .i64 a.key, .slice D a.b.length c, .int .i64 a.times] ∧ a.b.length ≤ c ∧ Byt W W.heap.size D a.b ∧ OkAct a := by
  obtain ⟨f0, f1, f2, f3, hu, ⟨t0, o0⟩, ⟨t1, o1⟩, ⟨t2, o2⟩, ⟨t3, o3⟩⟩ := fields_act15
  obtain ⟨xs, n, rfl, hxy, hlen, hxl, hg⟩ := DataW.trod_struct hu h
  have g0 := hg 0 f0 rfl
  have g1 := hg 1 f1 rfl
  have g2 := hg 2 f2 rfl
  have g3 := hg 3 f3 rfl
  rw [t0, o0, cells_int15] at g0
  rw [t1, o1, cells_int15] at g1
  rw [t2, o2, cells_bytes15] at g2
  rw [t3, o3, cells_int15] at g3
  match xs, hxl, cs, hsz with
  | [y0, y1, y2, y3], _, [v0, v1, v2, v3], _ =>
    obtain ⟨z0, hz0, _, w0⟩ := DataW.trod_int Try.underlying3 (show DataW.trod enc Try.prog W 0 (fun _ => true) true n 3 [v0] = some y0 from g0)
    obtain ⟨z1, hz1, _, w1⟩ := DataW.trod_int Try.underlying3 (show DataW.trod enc Try.prog W 0 (fun _ => true) true n 3 [v1] = some y1 from g1)
    obtain ⟨z3, hz3, _, w3⟩ := DataW.trod_int Try.underlying3 (show DataW.trod enc Try.prog W 0 (fun _ => true) true n 3 [v3] = some y3 from g3)
    have g2' : DataW.trod enc Try.prog W 0 (fun _ => true) true n 30 [v2] = some y2 := g2
    have hV : ∃ A ln cp, v2 = .slice A ln cp := by
      rcases open_ints Try.underlying30 Try.underlying5 cells_u8 g2' with ⟨hc, _⟩ | ⟨a, ln, cp, zs, hc, _⟩
      · simp at hc; exact ⟨none, 0, 0, hc⟩
      · simp at hc; exact ⟨some a, ln, cp, hc⟩
    obtain ⟨A, ln, cp, rfl⟩ := hV
    have b1 := bounds_i64 w1
    have b3 := bounds_i64 w3
    simp at hz0 hz1 hz3
    obtain ⟨lb, hln, hlb, hcp, hby, _⟩ := open_u8s (enc := enc) (W := W) (a0 := A) (len := ln) (cap := cp) (d := y2.1) (p := y2.2) 140737488351232 ⟨n, by simpa [Value.cells] using g2'⟩ (fun elems spare e => by
      refine hw _ ?_
      rw [hxy]
      show _ ∈ (DataW.agg (List.map (fun x => x.1) [y0, y1, y2, y3])).weights Try.prog 32
      rw [DataW.weights, Try.underlying32]
      simp only [List.map_cons, List.map_nil, DataW.weightsEach, List.append_nil]
      refine List.mem_append_right _ (List.mem_append_right _ (List.mem_append_left _ ?_))
      rw [e, DataW.weights, Try.underlying30]
      exact List.mem_cons_self ..)
    exact ⟨⟨z0, z1, lb, z3⟩, A, cp, by rw [hz0, hz1, hz3, hln], hlb, hby, b1, b3, by show lb.length ≤ _; omega⟩
theorem open_acts15 {H : Type} {enc : TypeId × Value → H} {W : World} {a0 : Option Addr} {len cap : Nat} {d : DataW H} {p : List MemPlace}
    (h : DataW.Trod enc Try.prog W 0 (fun _ => true) true 22 (.slice a0 len cap) d p)
    (hsz : ∀ x ∈ d.weights Try.prog 22, x ≤ 140737488351232) :
    ∃ l : List Act15, len = l.length ∧ l.length ≤ 4611686018427387904 ∧ Acts15 W W.heap.size a0 l ∧ ∀ a ∈ l, OkAct a := by
  obtain ⟨fuel, hf⟩ := h
  rcases open_slice Try.underlying22 hf with ⟨hcs, _⟩ | ⟨x, l, c, m, n, D, Pl, hcs, hb, hl, hm, hmm, hx, hcell⟩
  · simp [Value.cells] at hcs
    obtain ⟨rfl, rfl, rfl⟩ := hcs
    exact ⟨[], rfl, by simp, fun hp => absurd hp (by simp), fun a ha => by cases ha⟩
  · simp [Value.cells] at hcs
    obtain ⟨rfl, rfl, rfl⟩ := hcs
    obtain rfl : m = cap := by simpa using hmm
    simp only [Prod.mk.injEq] at hx
    obtain ⟨rfl, _⟩ := hx
    have hw : (len + (m - len)) * 48 ≤ 140737488351232 := by
      have := hsz ((len + (m - len)) * 48) (by rw [DataW.weights, Try.underlying22]; simp [bytes_act15])
      exact this
    have each : ∀ i, i < len → ∃ q : Act15, (∃ (DD : Option Addr) (cc : Nat), W.cell? (x.add (i * 4)) = some (.int .i64 q.kind) ∧ W.cell? (x.add (i * 4 + 1)) = some (.int .i64 q.key) ∧ W.cell? (x.add (i * 4 + 2)) = some (.slice DD q.b.length cc) ∧ W.cell? (x.add (i * 4 + 3)) = some (.int .i64 q.times) ∧ q.b.length ≤ cc ∧ Byt W W.heap.size DD q.b) ∧ OkAct q := fun i hi => by
      obtain ⟨cs', h1, h2⟩ := hcell i (by omega)
      rw [cells_act15] at h1
      obtain ⟨_, hlen, hc⟩ := World.cells?_some h1
      have hmem : D i ∈ (List.range len).map D := List.mem_map.2 ⟨i, List.mem_range.2 hi, rfl⟩
      obtain ⟨a, DD, cc, rfl, hle, hby, hok⟩ := each15 hlen h2 (fun y hy => hsz y (by
        rw [DataW.weights, Try.underlying22]
        exact List.mem_cons_of_mem _ (List.mem_append_left _ (weights15 hmem hy))))
      have e0 := hc 0 (by omega)
      have e1 := hc 1 (by omega)
      have e2 := hc 2 (by omega)
      have e3 := hc 3 (by omega)
      rw [add_add] at e0 e1 e2 e3
      exact ⟨a, ⟨DD, cc, by simpa using e0, by simpa using e1, by simpa using e2, by simpa using e3, hle, hby⟩, hok⟩
    obtain ⟨q, hq⟩ := choose_lt each
    refine ⟨(List.range len).map q, by simp, by simp; omega, fun hpos => ?_, fun a ha => ?_⟩
    · simp at hpos
      obtain ⟨b, off, spot⟩ := x
      obtain ⟨⟨_, _, h0, _⟩, _⟩ := hq 0 (by omega)
      have hspot : spot = none := by
        have := World.cell?_spot h0
        simpa [Addr.add] using this
      subst hspot
      have hlt : b < W.heap.size := by
        have := World.block_lt_of_cell? W _ h0
        rwa [block_of_add] at this
      refine ⟨b, off, rfl, hlt, fun i hi => ?_⟩
      simp at hi
      obtain ⟨⟨DD, cc, h1, h2, h3, h4, h5, h6⟩, _⟩ := hq i (by omega)
      rw [add_none] at h1 h2 h3 h4
      simp only [List.getElem_map, List.getElem_range]
      exact ⟨h1, by rw [Nat.add_assoc]; exact h2, ⟨DD, cc, by rw [Nat.add_assoc]; exact h3, h5, h6⟩, by rw [Nat.add_assoc]; exact h4⟩
    · obtain ⟨i, hi, rfl⟩ := List.mem_map.1 ha
      exact (hq i (List.mem_range.1 hi)).2
end Go.Proofs.Ytajpibopknpmmaa
