/-
  Words for tuples: the cells of one; and the walks of what it is asked: can it be, the other way round.
-/
import Derived.Test.YtcfckhdohcaffaaMad
namespace Go.Proofs.Ytcfckhdohcaffaa
open Go.RowKit
attribute [local go_sem ↓] exec_span exec_put exec_build heap_alloc_new heap_old
attribute [local go_sem] spanQ_ptr spanC_some heap_of_drew heap_of_drewN rs_arr rs_ad putAt_ptr putOk_ptr oldOk_some built_none World.setRow_alloc_new
set_option maxRecDepth 100000
set_option linter.unusedVariables false
set_option linter.unusedSimpArgs false

/-- what a tuple is. -/
structure Tup where
  sv : Bool
  sb : List UInt8
  dv : Bool
  db : List UInt8
  p : Int
  s : Int
  d : Int
def tupL (t : Tup) : List Value := adL t.sv t.sb ++ (adL t.dv t.db ++ [.int .i64 t.p, .int .i64 t.s, .int .i64 t.d])
structure TuV (X : Array Value) (t : Tup) : Prop where
  eq : X = (tupL t).toArray
  ls : t.sb.length = 16
  ld : t.db.length = 16
theorem length_adL {v : Bool} {l : List UInt8} (h : l.length = 16) : (adL v l).length = 17 := by simp [adL, h]
theorem TuV.size {X : Array Value} {t : Tup} (h : TuV X t) : X.size = 37 := by rw [h.eq]; simp [tupL, length_adL h.ls, length_adL h.ld]
theorem TuV.x0 {X : Array Value} {t : Tup} (h : TuV X t) : X.extract 0 37 = X := by rw [← h.size]; simp
theorem TuV.one {X : Array Value} {t : Tup} (h : TuV X t) : allOne X = true := by
  have e1 : ∀ (v : Bool) (l : List UInt8), ∀ u ∈ adL v l, u.oneCell' = true := fun v l u hu => by
    rcases List.mem_cons.1 hu with rfl | hu
    · rfl
    · exact byteV_one l u hu
  rw [h.eq]
  refine all_oneCell_toArray fun u hu => ?_
  rcases List.mem_append.1 hu with hu | hu
  · exact e1 _ _ u hu
  · rcases List.mem_append.1 hu with hu | hu
    · exact e1 _ _ u hu
    · simp at hu
      rcases hu with rfl | rfl | rfl <;> rfl
/-- its parts. -/
theorem TuV.src {X : Array Value} {t : Tup} (h : TuV X t) : X.extract 0 17 = (adL t.sv t.sb).toArray := by
  rw [h.eq, List.extract_toArray]
  congr 1
  simp only [tupL, List.extract_eq_take_drop, List.drop_zero]
  rw [List.take_append_of_le_length (by rw [length_adL h.ls]; decide), List.take_of_length_le (by rw [length_adL h.ls]; decide)]
theorem TuV.dst {X : Array Value} {t : Tup} (h : TuV X t) : X.extract 17 34 = (adL t.dv t.db).toArray := by
  rw [h.eq, List.extract_toArray]
  congr 1
  simp only [tupL, List.extract_eq_take_drop]
  rw [List.drop_append_of_le_length (by rw [length_adL h.ls]; decide), List.drop_of_length_le (by rw [length_adL h.ls]; decide), List.nil_append, List.take_append_of_le_length (by rw [length_adL h.ld]; decide), List.take_of_length_le (by rw [length_adL h.ld]; decide)]
theorem TuV.at {X : Array Value} {t : Tup} (h : TuV X t) : X[0]? = some (.bool t.sv) ∧ X[17]? = some (.bool t.dv) ∧ X[34]? = some (.int .i64 t.p) ∧ X[35]? = some (.int .i64 t.s) ∧ X[36]? = some (.int .i64 t.d) := by
  have hs := length_adL (v := t.sv) h.ls
  have hd := length_adL (v := t.dv) h.ld
  rw [h.eq]
  simp only [List.getElem?_toArray, tupL]
  refine ⟨rfl, ?_, ?_, ?_, ?_⟩
  · rw [List.getElem?_append_right (by omega), hs]; rfl
  · rw [List.getElem?_append_right (by omega), List.getElem?_append_right (by omega), hs, hd]; rfl
  · rw [List.getElem?_append_right (by omega), List.getElem?_append_right (by omega), hs, hd]; rfl
  · rw [List.getElem?_append_right (by omega), List.getElem?_append_right (by omega), hs, hd]; rfl
theorem rs_tup : rowSize Try.prog 52 = some 37 := by kernel_rfl
attribute [local go_sem] rs_tup

/-- what a walk asks of a tuple's block. -/
theorem TuV.cells {X : Array Value} {t : Tup} (h : TuV X t) {w : World} {g : Nat} {ty : TypeId} (hg : w.heap[g]? = some (.cells X ty (0, 0))) :
    w.cell? ⟨g, 0, none⟩ = some (.bool t.sv) ∧ w.cell? ⟨g, 17, none⟩ = some (.bool t.dv) ∧ w.cell? ⟨g, 34, none⟩ = some (.int .i64 t.p) ∧ w.cell? ⟨g, 35, none⟩ = some (.int .i64 t.s) ∧ w.cell? ⟨g, 36, none⟩ = some (.int .i64 t.d) := by
  obtain ⟨a, b, c, d, e⟩ := h.at
  exact ⟨(cell_of_row w g 0 X ty (0, 0) hg).trans a, (cell_of_row w g 17 X ty (0, 0) hg).trans b, (cell_of_row w g 34 X ty (0, 0) hg).trans c, (cell_of_row w g 35 X ty (0, 0) hg).trans d, (cell_of_row w g 36 X ty (0, 0) hg).trans e⟩

/-- which tuple can be. -/
def protoOk (p : Int) : Bool := p == 6 || p == 17
def portOk (p : Int) : Bool := decide (0 ≤ p) && decide (p ≤ 65535)
def rightT (t : Tup) : Bool := rightL t.sv t.sb && rightL t.dv t.db && t.sv == t.dv && protoOk t.p && portOk t.s && portOk t.d

set_option maxHeartbeats 400000 in
theorem rightProto_any (w : World) (p : Int) :
    Calls Try.prog 72 #[.int .i64 p] w fun e w' => e = .returned (.bool (protoOk p)) ∧ w = w' := by
  by_cases h6 : p = 6
  · subst h6
    go_enter Try.func72, Try.ntmps72
    go_wp2
    go_ret
    exact ⟨rfl, rfl⟩
  · have h6i : (p == 6) = false := by simpa using h6
    have hp := hide (show protoOk p = (p == 17) by unfold protoOk; rw [h6i]; rfl)
    obtain ⟨b, hb⟩ : ∃ b, b = (p == 17) := ⟨_, rfl⟩
    go_enter Try.func72, Try.ntmps72
    clear hb
    go_wp2
    go_ret
    exact ⟨by rw [hp.out]; rfl, rfl⟩
set_option maxHeartbeats 400000 in
theorem rightPort_any (w : World) (p : Int) :
    Calls Try.prog 73 #[.int .i64 p] w fun e w' => e = .returned (.bool (portOk p)) ∧ w = w' := by
  by_cases h0 : 0 ≤ p
  · have hp := hide (show portOk p = decide (p ≤ 65535) by unfold portOk; rw [decide_eq_true h0]; rfl)
    go_enter Try.func73, Try.ntmps73
    go_wp2
    go_ret
    exact ⟨by rw [hp.out]; rfl, rfl⟩
  · have hp := hide (show portOk p = false by unfold portOk; rw [decide_eq_false h0]; rfl)
    go_enter Try.func73, Try.ntmps73
    go_wp2
    go_ret
    exact ⟨by rw [hp.out]; rfl, rfl⟩

set_option maxHeartbeats 4000000 in
theorem righttuple_any (w : World) (X : Array Value) (t : Tup) (h : TuV X t) :
    Calls Try.prog 46 #[.agg X] w fun e w' => e = .returned (.bool (rightT t)) ∧ Below w.heap.size w w' := by
  go_enter Try.func46, Try.ntmps46
  have hxs := h.size
  obtain ⟨S, hS⟩ : ∃ S, S = (adL t.sv t.sb).toArray := ⟨_, rfl⟩
  obtain ⟨D, hD⟩ : ∃ D, D = (adL t.dv t.db).toArray := ⟨_, rfl⟩
  have hsrc := h.src
  have hdst := h.dst
  rw [← hS] at hsrc
  rw [← hD] at hdst
  have aS : AdV S t.sv t.sb := by rw [hS]; exact AdV.mk' h.ls
  have aD : AdV D t.dv t.db := by rw [hD]; exact AdV.mk' h.ld
  obtain ⟨W, hW, h1, hz, hb⟩ := one_block w (.cells X 52)
  have hB := hide hb
  have hlt : Hid (W.heap.size = w.heap.size + 1) := hide hz
  have H1 := hide h1
  have HC := hide (fun (W : World) (hg : W.heap[w.heap.size]? = some (.cells X 52 (0, 0))) => h.cells hg)
  have c1 := hide (fun W => right_any W S t.sv t.sb aS)
  have c2 := hide (fun W => right_any W D t.dv t.db aD)
  obtain ⟨R1, hR1⟩ : ∃ R, R = rightL t.sv t.sb := ⟨_, rfl⟩
  obtain ⟨R2, hR2⟩ : ∃ R, R = rightL t.dv t.db := ⟨_, rfl⟩
  rw [← hR1] at c1
  rw [← hR2] at c2
  have HR1 := hide hR1
  have HR2 := hide hR2
  obtain ⟨k1, k2, k3, k4, k5⟩ := h.cells h1
  clear hz hb hS hD aS aD hR1 hR2
  have hT : Hid (rightT t = (R1 && R2 && t.sv == t.dv && protoOk t.p && portOk t.s && portOk t.d)) := hide (by rw [HR1.out, HR2.out]; rfl)
  have cp := hide (fun W => rightProto_any W t.p)
  have cs := hide (fun W => rightPort_any W t.s)
  have cd := hide (fun W => rightPort_any W t.d)
  obtain ⟨P, hP⟩ : ∃ P, P = protoOk t.p := ⟨_, rfl⟩
  obtain ⟨Q, hQ⟩ : ∃ P, P = portOk t.s := ⟨_, rfl⟩
  obtain ⟨O, hO⟩ : ∃ P, P = portOk t.d := ⟨_, rfl⟩
  rw [← hP] at cp hT
  rw [← hQ] at cs hT
  rw [← hO] at cd hT
  clear hP hQ hO
  obtain ⟨sv, hsv⟩ : ∃ b, b = t.sv := ⟨_, rfl⟩
  obtain ⟨dv, hdv⟩ : ∃ b, b = t.dv := ⟨_, rfl⟩
  obtain ⟨pp, hpp⟩ : ∃ b, b = t.p := ⟨_, rfl⟩
  obtain ⟨ps, hps⟩ : ∃ b, b = t.s := ⟨_, rfl⟩
  obtain ⟨pd, hpd⟩ : ∃ b, b = t.d := ⟨_, rfl⟩
  rw [← hsv, ← hdv, ← hpp, ← hps, ← hpd] at HC
  rw [← hsv] at k1 hT
  rw [← hdv] at k2 hT
  rw [← hpp] at k3 cp
  rw [← hps] at k4 cs
  rw [← hpd] at k5 cd
  clear hsv hdv hpp hps hpd
  have A1 : True := trivial
  cases R1
  · go_wp2_with (first
        | (go_at_call 71; (with_reducible refine (c1.out _).mono ?_); rintro e w2 ⟨rfl, hb2⟩; have HB2 : Hid (Below W.heap.size W w2) := hide hb2; have h12 := row_kept hb2 (by have := hlt.out; omega) H1.out; obtain ⟨j1, j2, j3, j4, j5⟩ := HC.out w2 h12)
        | (go_at_call 71; (with_reducible refine (c2.out _).mono ?_); rintro e w3 ⟨rfl, hb3⟩; have HB3 : Hid (Below W.heap.size W w3) := hide (HB2.out.trans (hb3.mono HB2.out.size)); have h13 := row_kept hb3 (by have := hlt.out; have := HB2.out.size; omega) h12; obtain ⟨i1, i2, i3, i4, i5⟩ := HC.out w3 h13)
        | (go_at_call 72; (with_reducible refine (cp.out _).mono ?_); rintro e wx ⟨rfl, rfl⟩)
        | (go_at_call 73; (with_reducible refine (cs.out _).mono ?_); rintro e wx ⟨rfl, rfl⟩)
        | (go_at_call 73; (with_reducible refine (cd.out _).mono ?_); rintro e wx ⟨rfl, rfl⟩))
    go_ret
    exact ⟨by rw [hT.out]; simp, hB.out.trans (HB2.out.mono (by have := hlt.out; omega))⟩
  · cases R2
    · go_wp2_with (first
        | (go_at_call 71; (with_reducible refine (c1.out _).mono ?_); rintro e w2 ⟨rfl, hb2⟩; have HB2 : Hid (Below W.heap.size W w2) := hide hb2; have h12 := row_kept hb2 (by have := hlt.out; omega) H1.out; obtain ⟨j1, j2, j3, j4, j5⟩ := HC.out w2 h12)
        | (go_at_call 71; (with_reducible refine (c2.out _).mono ?_); rintro e w3 ⟨rfl, hb3⟩; have HB3 : Hid (Below W.heap.size W w3) := hide (HB2.out.trans (hb3.mono HB2.out.size)); have h13 := row_kept hb3 (by have := hlt.out; have := HB2.out.size; omega) h12; obtain ⟨i1, i2, i3, i4, i5⟩ := HC.out w3 h13)
        | (go_at_call 72; (with_reducible refine (cp.out _).mono ?_); rintro e wx ⟨rfl, rfl⟩)
        | (go_at_call 73; (with_reducible refine (cs.out _).mono ?_); rintro e wx ⟨rfl, rfl⟩)
        | (go_at_call 73; (with_reducible refine (cd.out _).mono ?_); rintro e wx ⟨rfl, rfl⟩))
      go_ret
      exact ⟨by rw [hT.out]; simp, hB.out.trans (HB3.out.mono (by have := hlt.out; omega))⟩
    · cases sv <;> cases dv
      · cases P
        · go_wp2_with (first
        | (go_at_call 71; (with_reducible refine (c1.out _).mono ?_); rintro e w2 ⟨rfl, hb2⟩; have HB2 : Hid (Below W.heap.size W w2) := hide hb2; have h12 := row_kept hb2 (by have := hlt.out; omega) H1.out; obtain ⟨j1, j2, j3, j4, j5⟩ := HC.out w2 h12)
        | (go_at_call 71; (with_reducible refine (c2.out _).mono ?_); rintro e w3 ⟨rfl, hb3⟩; have HB3 : Hid (Below W.heap.size W w3) := hide (HB2.out.trans (hb3.mono HB2.out.size)); have h13 := row_kept hb3 (by have := hlt.out; have := HB2.out.size; omega) h12; obtain ⟨i1, i2, i3, i4, i5⟩ := HC.out w3 h13)
        | (go_at_call 72; (with_reducible refine (cp.out _).mono ?_); rintro e wx ⟨rfl, rfl⟩)
        | (go_at_call 73; (with_reducible refine (cs.out _).mono ?_); rintro e wx ⟨rfl, rfl⟩)
        | (go_at_call 73; (with_reducible refine (cd.out _).mono ?_); rintro e wx ⟨rfl, rfl⟩))
          go_ret
          exact ⟨by rw [hT.out]; simp, hB.out.trans (HB3.out.mono (by have := hlt.out; omega))⟩
        · cases Q
          · go_wp2_with (first
        | (go_at_call 71; (with_reducible refine (c1.out _).mono ?_); rintro e w2 ⟨rfl, hb2⟩; have HB2 : Hid (Below W.heap.size W w2) := hide hb2; have h12 := row_kept hb2 (by have := hlt.out; omega) H1.out; obtain ⟨j1, j2, j3, j4, j5⟩ := HC.out w2 h12)
        | (go_at_call 71; (with_reducible refine (c2.out _).mono ?_); rintro e w3 ⟨rfl, hb3⟩; have HB3 : Hid (Below W.heap.size W w3) := hide (HB2.out.trans (hb3.mono HB2.out.size)); have h13 := row_kept hb3 (by have := hlt.out; have := HB2.out.size; omega) h12; obtain ⟨i1, i2, i3, i4, i5⟩ := HC.out w3 h13)
        | (go_at_call 72; (with_reducible refine (cp.out _).mono ?_); rintro e wx ⟨rfl, rfl⟩)
        | (go_at_call 73; (with_reducible refine (cs.out _).mono ?_); rintro e wx ⟨rfl, rfl⟩)
        | (go_at_call 73; (with_reducible refine (cd.out _).mono ?_); rintro e wx ⟨rfl, rfl⟩))
            go_ret
            exact ⟨by rw [hT.out]; simp, hB.out.trans (HB3.out.mono (by have := hlt.out; omega))⟩
          · go_wp2_with (first
        | (go_at_call 71; (with_reducible refine (c1.out _).mono ?_); rintro e w2 ⟨rfl, hb2⟩; have HB2 : Hid (Below W.heap.size W w2) := hide hb2; have h12 := row_kept hb2 (by have := hlt.out; omega) H1.out; obtain ⟨j1, j2, j3, j4, j5⟩ := HC.out w2 h12)
        | (go_at_call 71; (with_reducible refine (c2.out _).mono ?_); rintro e w3 ⟨rfl, hb3⟩; have HB3 : Hid (Below W.heap.size W w3) := hide (HB2.out.trans (hb3.mono HB2.out.size)); have h13 := row_kept hb3 (by have := hlt.out; have := HB2.out.size; omega) h12; obtain ⟨i1, i2, i3, i4, i5⟩ := HC.out w3 h13)
        | (go_at_call 72; (with_reducible refine (cp.out _).mono ?_); rintro e wx ⟨rfl, rfl⟩)
        | (go_at_call 73; (with_reducible refine (cs.out _).mono ?_); rintro e wx ⟨rfl, rfl⟩)
        | (go_at_call 73; (with_reducible refine (cd.out _).mono ?_); rintro e wx ⟨rfl, rfl⟩))
            go_ret
            exact ⟨by rw [hT.out]; simp, hB.out.trans (HB3.out.mono (by have := hlt.out; omega))⟩
      · go_wp2_with (first
        | (go_at_call 71; (with_reducible refine (c1.out _).mono ?_); rintro e w2 ⟨rfl, hb2⟩; have HB2 : Hid (Below W.heap.size W w2) := hide hb2; have h12 := row_kept hb2 (by have := hlt.out; omega) H1.out; obtain ⟨j1, j2, j3, j4, j5⟩ := HC.out w2 h12)
        | (go_at_call 71; (with_reducible refine (c2.out _).mono ?_); rintro e w3 ⟨rfl, hb3⟩; have HB3 : Hid (Below W.heap.size W w3) := hide (HB2.out.trans (hb3.mono HB2.out.size)); have h13 := row_kept hb3 (by have := hlt.out; have := HB2.out.size; omega) h12; obtain ⟨i1, i2, i3, i4, i5⟩ := HC.out w3 h13)
        | (go_at_call 72; (with_reducible refine (cp.out _).mono ?_); rintro e wx ⟨rfl, rfl⟩)
        | (go_at_call 73; (with_reducible refine (cs.out _).mono ?_); rintro e wx ⟨rfl, rfl⟩)
        | (go_at_call 73; (with_reducible refine (cd.out _).mono ?_); rintro e wx ⟨rfl, rfl⟩))
        go_ret
        exact ⟨by rw [hT.out]; simp, hB.out.trans (HB3.out.mono (by have := hlt.out; omega))⟩
      · go_wp2_with (first
        | (go_at_call 71; (with_reducible refine (c1.out _).mono ?_); rintro e w2 ⟨rfl, hb2⟩; have HB2 : Hid (Below W.heap.size W w2) := hide hb2; have h12 := row_kept hb2 (by have := hlt.out; omega) H1.out; obtain ⟨j1, j2, j3, j4, j5⟩ := HC.out w2 h12)
        | (go_at_call 71; (with_reducible refine (c2.out _).mono ?_); rintro e w3 ⟨rfl, hb3⟩; have HB3 : Hid (Below W.heap.size W w3) := hide (HB2.out.trans (hb3.mono HB2.out.size)); have h13 := row_kept hb3 (by have := hlt.out; have := HB2.out.size; omega) h12; obtain ⟨i1, i2, i3, i4, i5⟩ := HC.out w3 h13)
        | (go_at_call 72; (with_reducible refine (cp.out _).mono ?_); rintro e wx ⟨rfl, rfl⟩)
        | (go_at_call 73; (with_reducible refine (cs.out _).mono ?_); rintro e wx ⟨rfl, rfl⟩)
        | (go_at_call 73; (with_reducible refine (cd.out _).mono ?_); rintro e wx ⟨rfl, rfl⟩))
        go_ret
        exact ⟨by rw [hT.out]; simp, hB.out.trans (HB3.out.mono (by have := hlt.out; omega))⟩
      · cases P
        · go_wp2_with (first
        | (go_at_call 71; (with_reducible refine (c1.out _).mono ?_); rintro e w2 ⟨rfl, hb2⟩; have HB2 : Hid (Below W.heap.size W w2) := hide hb2; have h12 := row_kept hb2 (by have := hlt.out; omega) H1.out; obtain ⟨j1, j2, j3, j4, j5⟩ := HC.out w2 h12)
        | (go_at_call 71; (with_reducible refine (c2.out _).mono ?_); rintro e w3 ⟨rfl, hb3⟩; have HB3 : Hid (Below W.heap.size W w3) := hide (HB2.out.trans (hb3.mono HB2.out.size)); have h13 := row_kept hb3 (by have := hlt.out; have := HB2.out.size; omega) h12; obtain ⟨i1, i2, i3, i4, i5⟩ := HC.out w3 h13)
        | (go_at_call 72; (with_reducible refine (cp.out _).mono ?_); rintro e wx ⟨rfl, rfl⟩)
        | (go_at_call 73; (with_reducible refine (cs.out _).mono ?_); rintro e wx ⟨rfl, rfl⟩)
        | (go_at_call 73; (with_reducible refine (cd.out _).mono ?_); rintro e wx ⟨rfl, rfl⟩))
          go_ret
          exact ⟨by rw [hT.out]; simp, hB.out.trans (HB3.out.mono (by have := hlt.out; omega))⟩
        · cases Q
          · go_wp2_with (first
        | (go_at_call 71; (with_reducible refine (c1.out _).mono ?_); rintro e w2 ⟨rfl, hb2⟩; have HB2 : Hid (Below W.heap.size W w2) := hide hb2; have h12 := row_kept hb2 (by have := hlt.out; omega) H1.out; obtain ⟨j1, j2, j3, j4, j5⟩ := HC.out w2 h12)
        | (go_at_call 71; (with_reducible refine (c2.out _).mono ?_); rintro e w3 ⟨rfl, hb3⟩; have HB3 : Hid (Below W.heap.size W w3) := hide (HB2.out.trans (hb3.mono HB2.out.size)); have h13 := row_kept hb3 (by have := hlt.out; have := HB2.out.size; omega) h12; obtain ⟨i1, i2, i3, i4, i5⟩ := HC.out w3 h13)
        | (go_at_call 72; (with_reducible refine (cp.out _).mono ?_); rintro e wx ⟨rfl, rfl⟩)
        | (go_at_call 73; (with_reducible refine (cs.out _).mono ?_); rintro e wx ⟨rfl, rfl⟩)
        | (go_at_call 73; (with_reducible refine (cd.out _).mono ?_); rintro e wx ⟨rfl, rfl⟩))
            go_ret
            exact ⟨by rw [hT.out]; simp, hB.out.trans (HB3.out.mono (by have := hlt.out; omega))⟩
          · go_wp2_with (first
        | (go_at_call 71; (with_reducible refine (c1.out _).mono ?_); rintro e w2 ⟨rfl, hb2⟩; have HB2 : Hid (Below W.heap.size W w2) := hide hb2; have h12 := row_kept hb2 (by have := hlt.out; omega) H1.out; obtain ⟨j1, j2, j3, j4, j5⟩ := HC.out w2 h12)
        | (go_at_call 71; (with_reducible refine (c2.out _).mono ?_); rintro e w3 ⟨rfl, hb3⟩; have HB3 : Hid (Below W.heap.size W w3) := hide (HB2.out.trans (hb3.mono HB2.out.size)); have h13 := row_kept hb3 (by have := hlt.out; have := HB2.out.size; omega) h12; obtain ⟨i1, i2, i3, i4, i5⟩ := HC.out w3 h13)
        | (go_at_call 72; (with_reducible refine (cp.out _).mono ?_); rintro e wx ⟨rfl, rfl⟩)
        | (go_at_call 73; (with_reducible refine (cs.out _).mono ?_); rintro e wx ⟨rfl, rfl⟩)
        | (go_at_call 73; (with_reducible refine (cd.out _).mono ?_); rintro e wx ⟨rfl, rfl⟩))
            go_ret
            exact ⟨by rw [hT.out]; simp, hB.out.trans (HB3.out.mono (by have := hlt.out; omega))⟩
end Go.Proofs.Ytcfckhdohcaffaa
