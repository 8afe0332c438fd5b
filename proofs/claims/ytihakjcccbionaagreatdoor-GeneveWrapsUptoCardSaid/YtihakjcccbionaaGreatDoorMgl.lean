import Derived.Test.YtihakjcccbionaaGreatDoorMgn
import Derived.Test.YtihakjcccbionaaGreatDoorMad
import Derived.Deep.RegionLaw
import Derived.Deep.AppendLies
import Derived.Deep.RegionHeld3
import Derived.Deep.CutRange
import Derived.Test.YtihakjcccbionaaGreatDoorBase
import Derived.OrdersHeld
import Derived.RegionTactic
import Derived.StillTail
import Derived.Deep.RegionHeld
import Derived.Test.YtihakjcccbionaaGreatDoorMrd
import Derived.Test.YtihakjcccbionaaGreatDoorBits
section
/-
  The options of a tunnel as a row that grows; the walks of given and taken.
-/
namespace Go.Proofs.YtihakjcccbionaaGreatDoor
open Go.RowKit
set_option maxRecDepth 100000
set_option linter.unusedVariables false
set_option linter.unusedSimpArgs false
attribute [local go_sem ↓] exec_span exec_put exec_build heap_alloc_new heap_old
attribute [local go_sem] spanQ_ptr spanC_some heap_of_drew heap_of_drewN putAt_ptr putOk_ptr oldOk_some World.setRow_alloc_new

/-- v is a row of the call's own, whose elements are these options; their bytes lie elsewhere. -/
structure OgS (w : World) (base : Nat) (t : TypeId) (v : Value) (l : List OpG) : Prop where
  row : w.ownsRow base t 3 v l.length (ogsC l)
  ob : OgB w w.heap.size l
  ne : ∀ x ∈ l, 0 < x.d.length → ∀ a, x.a = some a → v.ownBlock ≠ some a.block
theorem OgS.nil (w : World) (base : Nat) (t : TypeId) : OgS w base t (.slice none 0 0) [] := ⟨World.ownsRow_nil _ _ _ _, OgB.nil _ _, fun x hx => by simp at hx⟩
theorem Byt.grown {w w' : World} {B : Nat} {A : Option Addr} {l : List UInt8} {row : Option Nat} (h : Byt w B A l) (hg : w.grownBy w' row) (hne : 0 < l.length → ∀ a, A = some a → row ≠ some a.block) : Byt w' B A l := fun hl => by
  obtain ⟨b, off, e, hb, hc⟩ := h hl
  exact ⟨b, off, e, hb, fun i hi => hg.cell (hc i hi) (fun e2 => hne hl _ e e2.symm)⟩
theorem Byt.blk {w : World} {B : Nat} {A : Option Addr} {l : List UInt8} (h : Byt w B A l) (hl : 0 < l.length) {a : Addr} (e : A = some a) : a.block < B := by
  obtain ⟨b, off, e2, hb, -⟩ := h hl
  rw [e] at e2; cases e2; exact hb
theorem OgS.grown {w w' : World} {base : Nat} {t : TypeId} {v : Value} {l : List OpG} {row : Option Nat} (h : OgS w base t v l) (hg : w.grownBy w' row) (h1 : v.ownBlock = none ∨ v.ownBlock ≠ row) (h2 : ∀ x ∈ l, 0 < x.d.length → ∀ a, x.a = some a → row ≠ some a.block) : OgS w' base t v l :=
  ⟨World.ownsRow.kept h.row hg h1, fun x hx => ⟨((h.ob x hx).1.grown hg (h2 x hx)).more hg.size, (h.ob x hx).2⟩, h.ne⟩
theorem OgS.below {w w' : World} {base : Nat} {t : TypeId} {v : Value} {l : List OpG} (h : OgS w base t v l) (hb : Below w.heap.size w w') : OgS w' base t v l :=
  h.grown (row := none) ⟨hb.os, hb.tape, hb.output, hb.size, fun k hk _ => hb.block k hk⟩ (by cases hv : v.ownBlock <;> simp) (fun _ _ _ _ _ => by simp)
/-- a store into a box that lies below all that. -/
theorem OgS.box {w w' : World} {base g : Nat} {t : TypeId} {v : Value} {l : List OpG} (h : OgS w base t v l) (hg : w.grownBy w' (some g)) (h1 : g < base) (h2 : ∀ x ∈ l, 0 < x.d.length → ∀ a, x.a = some a → g ≠ a.block) : OgS w' base t v l :=
  h.grown hg (by
    by_cases e : v.ownBlock = some g
    · have := (World.ownsRow.lt h.row g e).1; omega
    · exact .inr e) (fun x hx hl a ha e => h2 x hx hl a ha (Option.some.inj e))
/-- one option more: what is so behind the append. -/
theorem OgS.snoc {w w2 : World} {base : Nat} {t : TypeId} {v v' : Value} {l : List OpG} {x : OpG} (h : OgS w base t v l) (hg : w.grownBy w2 v.ownBlock) (hv : w2.ownsRow base t 3 v' (l.length + 1) (ogsC l ++ ogC x)) (ha : ∀ k, v'.ownBlock = some k → v.ownBlock = some k ∨ w.heap.size ≤ k)
    (hx : Byt w w.heap.size x.a x.d ∧ (x.a = none → x.k = 0) ∧ x.d.length ≤ x.k) (hxa : 0 < x.d.length → ∀ a, x.a = some a → v.ownBlock ≠ some a.block) : OgS w2 base t v' (l ++ [x]) := by
  have key : ∀ y ∈ l ++ [x], (Byt w w.heap.size y.a y.d ∧ (y.a = none → y.k = 0) ∧ y.d.length ≤ y.k) ∧ (0 < y.d.length → ∀ a, y.a = some a → v.ownBlock ≠ some a.block) := fun y hy => by
    rcases List.mem_append.1 hy with h1 | h1
    · exact ⟨h.ob y h1, h.ne y h1⟩
    · rw [List.mem_singleton] at h1; subst h1; exact ⟨hx, hxa⟩
  refine ⟨by rw [ogsC_snoc, List.length_append]; exact hv, fun y hy => ⟨((key y hy).1.1.grown hg (key y hy).2).more hg.size, (key y hy).1.2⟩, fun y hy hl a e e2 => ?_⟩
  rcases ha _ e2 with h1 | h1
  · exact (key y hy).2 hl a e h1
  · have := (key y hy).1.1.blk hl e; omega
theorem OgS.rd {w : World} {base : Nat} {t : TypeId} {v : Value} {l : List OpG} (h : OgS w base t v l) : ∃ A c, v = .slice A l.length c ∧ l.length ≤ c ∧ RdG w w.heap.size A l := row_ogs h.row rfl

theorem rs_tunG : rowSize Tryz.prog 38 = some 5 := by kernel_rfl
theorem rs_rtunG : rowSize Tryz.prog 30 = some 5 := by kernel_rfl
theorem rs_optG : rowSize Tryz.prog 60 = some 3 := by kernel_rfl
theorem rs_roptG : rowSize Tryz.prog 59 = some 3 := by kernel_rfl
theorem info_optG : (Tryz.prog.info? 60).map (fun i => (i.zero, i.size, i.bytes)) = some (some (.agg #[.int .i64 0, .int .i64 0, .slice none 0 0]), 3, 40) := by kernel_rfl
theorem info_roptG : (Tryz.prog.info? 59).map (fun i => (i.zero, i.size, i.bytes)) = some (some (.agg #[.int .i64 0, .int .i64 0, .slice none 0 0]), 3, 40) := by kernel_rfl
theorem info_tunG : (Tryz.prog.info? 38).map (·.size) = some 5 := by kernel_rfl
theorem info_rtunG : (Tryz.prog.info? 30).map (·.size) = some 5 := by kernel_rfl
theorem built_tunG (o : Bool) (p v : Int) (I : Option Addr) (n k : Nat) : Tryz.prog.built 38 [(0, .bool o), (1, .int .i64 p), (2, .int .i64 v), (4, .slice I n k)] = some (tunA o p v none 0 0 I n k) := by kernel_rfl
theorem built_rtunG (o : Bool) (p v : Int) (I : Option Addr) (n k : Nat) : Tryz.prog.built 30 [(0, .bool o), (1, .int .i64 p), (2, .int .i64 v), (4, .slice I n k)] = some (tunA o p v none 0 0 I n k) := by kernel_rfl
theorem built_optG (c t : Int) (A : Option Addr) (n k : Nat) : Tryz.prog.built 60 [(0, .int .i64 c), (1, .int .i64 t), (2, .slice A n k)] = some #[.int .i64 c, .int .i64 t, .slice A n k] := by kernel_rfl
theorem built_roptG (c t : Int) (A : Option Addr) (n k : Nat) : Tryz.prog.built 59 [(0, .int .i64 c), (1, .int .i64 t), (2, .slice A n k)] = some #[.int .i64 c, .int .i64 t, .slice A n k] := by kernel_rfl
/-- the local tunnel at g: what stands in it behind j options; their bytes lie neither in it nor in the box r of the result. -/
structure TlI (w wr : World) (g r : Nat) (tt te : TypeId) (T : TuD) (j : Nat) (A : Option Addr) (c : Nat) (I : Option Addr) (k : Nat) (l : List OpG) : Prop where
  box : wr.heap[g]? = some (.cells (tunA T.o T.p T.v A l.length c I T.D.length k) tt (0, 0))
  og : OgS wr (g + 1) te (.slice A l.length c) l
  say : l.map OpG.say = T.l.take j
  far : ∀ x ∈ l, 0 < x.d.length → ∀ a, x.a = some a → a.block ≠ g ∧ a.block ≠ r
  i : Byt wr wr.heap.size I T.D
  ib : 0 < T.D.length → ∀ a, I = some a → (a.block ≠ g ∧ a.block ≠ r) ∧ (Value.slice A l.length c).ownBlock ≠ some a.block
  inn : I = none → k = 0
  ik : T.D.length ≤ k
  bel : Below w.heap.size w wr
  lo : w.heap.size ≤ g
section
variable {w wr w2 : World} {g r : Nat} {tt te : TypeId} {T : TuD} {j : Nat} {A : Option Addr} {c : Nat} {I : Option Addr} {k : Nat} {l : List OpG}
theorem TlI.len (h : TlI w wr g r tt te T j A c I k l) (hj : j ≤ T.l.length) : l.length = j := by
  have := congrArg List.length h.say
  simpa [Nat.min_eq_left hj] using this
theorem TlI.lt (h : TlI w wr g r tt te T j A c I k l) : g < wr.heap.size := (Array.getElem?_eq_some_iff.1 h.box).1
/-- what was only added to stays so. -/
theorem TlI.below (h : TlI w wr g r tt te T j A c I k l) (hb : Below wr.heap.size wr w2) : TlI w w2 g r tt te T j A c I k l :=
  ⟨(hb.block g h.lt).trans h.box, h.og.below hb, h.say, h.far, (h.i.below hb).more hb.size, h.ib, h.inn, h.ik, h.bel.trans (hb.mono h.bel.size), h.lo⟩
/-- a box ahead of it is stored into. -/
theorem TlI.box2 (h : TlI w wr g r tt te T j A c I k l) (hg : wr.grownBy w2 (some r)) (h1 : w.heap.size ≤ r) (h2 : r < g) : TlI w w2 g r tt te T j A c I k l :=
  ⟨(hg.block g h.lt (by simp; omega)).trans h.box, h.og.box hg (by omega) (fun x hx hl a e => fun e2 => (h.far x hx hl a e).2 e2.symm), h.say, h.far, (h.i.grown hg (fun hl a e e2 => (h.ib hl a e).1.2 (Option.some.inj e2).symm)).more hg.size, h.ib, h.inn, h.ik, h.bel.grown hg h.bel.size (fun k e => by cases e; exact h1), h.lo⟩
/-- one option more: behind the append and its store. -/
theorem TlI.snoc (h : TlI w wr g r tt te T j A c I k l) {x : OpG} {gg cap : Nat}
    (hg : wr.grownBy w2 (Value.slice A l.length c).ownBlock) (hv : w2.ownsRow (g + 1) te 3 (.slice (some ⟨gg, 0, none⟩) (l.length + 1) cap) (l.length + 1) (ogsC l ++ ogC x)) (ha : (Value.slice A l.length c).ownBlock = some gg ∨ wr.heap.size ≤ gg)
    (hx : Byt wr wr.heap.size x.a x.d ∧ (x.a = none → x.k = 0) ∧ x.d.length ≤ x.k) (hxa : 0 < x.d.length → ∀ a, x.a = some a → (a.block ≠ g ∧ a.block ≠ r) ∧ (Value.slice A l.length c).ownBlock ≠ some a.block) (hj : j < T.l.length) (hs : T.l[j] = x.say) :
    TlI w (w2.setCell ⟨g, 3, none⟩ (.slice (some ⟨gg, 0, none⟩) (l.length + 1) cap)) g r tt te T (j + 1) (some ⟨gg, 0, none⟩) cap I k (l ++ [x]) := by
  have hne : (Value.slice A l.length c).ownBlock ≠ some g := fun e => by have := (World.ownsRow.lt h.og.row g e).1; omega
  have b2 : w2.heap[g]? = some (.cells (tunA T.o T.p T.v A l.length c I T.D.length k) tt (0, 0)) := (hg.block g h.lt (fun e => hne e.symm)).trans h.box
  have hgt : g < gg := by have := (World.ownsRow.lt hv gg rfl).1; omega
  have s2 := h.og.snoc hg hv (fun k e => by cases e; exact ha) hx (fun hl a e => (hxa hl a e).2)
  have gs : w2.grownBy (w2.setCell ⟨g, 3, none⟩ (.slice (some ⟨gg, 0, none⟩) (l.length + 1) cap)) (some g) := grown_set w2 g 3 _
  have hfar : ∀ y ∈ l ++ [x], 0 < y.d.length → ∀ a, y.a = some a → a.block ≠ g ∧ a.block ≠ r := fun y hy hl a e => by
    rcases List.mem_append.1 hy with h1 | h1
    · exact h.far y h1 hl a e
    · rw [List.mem_singleton] at h1; subst h1; exact (hxa hl a e).1
  have hlo := h.lo
  have hl : (l ++ [x]).length = l.length + 1 := by simp
  refine ⟨?_, ?_, ?_, hfar, ?_, ?_, h.inn, h.ik, ?_, h.lo⟩
  · rw [hl]; exact heap_setCell_same w2 g 3 _ _ _ b2
  · rw [hl]; exact s2.box gs (Nat.lt_succ_self _) (fun y hy hp a e e2 => (hfar y hy hp a e).1 e2.symm)
  · rw [List.map_append, h.say, List.take_succ_eq_append_getElem hj, hs]; rfl
  · exact ((h.i.grown hg (fun hp a e => (h.ib hp a e).2)).grown gs (fun hp a e e2 => (h.ib hp a e).1.1 (Option.some.inj e2).symm)).more (Nat.le_trans hg.size gs.size)
  · refine fun hp a e => ⟨(h.ib hp a e).1, fun e2 => ?_⟩
    have e3 : gg = a.block := Option.some.inj e2
    rcases ha with h1 | h1
    · exact (h.ib hp a e).2 (by rw [h1, e3])
    · have := h.i.blk hp e; omega
  · refine (h.bel.grown hg h.bel.size (fun k e => ?_)).grown gs (Nat.le_trans h.bel.size hg.size) (fun k e => by cases e; exact h.lo)
    have := (World.ownsRow.lt h.og.row k e).1; omega
theorem TlI.snoc_old (h : TlI w wr g r tt te T j A c I k l) (hg : wr.grownBy w2 (Value.slice A l.length c).ownBlock) {i : Nat} (hi : i < g) (u : Value) : (w2.setCell ⟨g, 3, none⟩ u).heap[i]? = wr.heap[i]? := by
  have hlt := h.lt
  have gs := grown_set w2 g 3 u
  exact (gs.block i (Nat.lt_of_lt_of_le (by omega) hg.size) (by simp; omega)).trans (hg.block i (by omega) (fun e => by have := (World.ownsRow.lt h.og.row i e.symm).1; omega))
/-- all options stand in it: the tunnel. -/
theorem TlI.all (h : TlI w wr g r tt te T T.l.length A c I k l) : TuG wr (tunA T.o T.p T.v A l.length c I T.D.length k) T := by
  obtain ⟨A', c', e, hle, hr⟩ := h.og.rd
  cases e
  exact ⟨A, c, l, I, k, rfl, by rw [h.say, List.take_length], hr, h.og.ob, hle, h.i, h.inn, h.ik⟩
end
end Go.Proofs.YtihakjcccbionaaGreatDoor

end
section
/-
  A drawn region whose last operation waits for all the others: what the loads read need not hold behind that last one.
-/
namespace Go.Proofs.YtihakjcccbionaaGreatDoor
open Go.RowKit
set_option linter.unusedVariables false
section
variable {P : Program} {md : Region.Mode} {ops : Array Oper} {Q : Exit → Act → World → Prop} {S : World → Prop} {z : Nat}

/-- whatever order is picked; S holds behind each operation but number z. -/
def upZ (P : Program) (md : Region.Mode) (ops : Array Oper) (Q : Exit → Act → World → Prop) (S : World → Prop) (z : Nat) : Nat → Array Bool → Act → World → Prop
  | 0, ls, a, w => Region.ready md ops ls = [] ∧ Q .normal a w
  | f + 1, ls, a, w => (Region.ready md ops ls = [] → Q .normal a w) ∧ ∀ i ∈ Region.ready md ops ls, wpOp P ops Q i (fun a' w' => (i ≠ z → S w') ∧ upZ P md ops Q S z f (ls.setIfInBounds i true) a' w') a w
theorem any_of_upZ : ∀ (f : Nat) (ls : Array Bool) (a : Act) (w : World), upZ P md ops Q S z f ls a w → wpAny P md ops Q f ls a w := by
  intro f
  induction f with
  | zero => exact fun _ _ _ h => h
  | succ f ih => exact fun ls a w h => ⟨h.1, fun i hi => wpOp_mono (fun a' w' h' => ih _ a' w' h'.2) (h.2 i hi)⟩
/-- number z waits for number i. -/
def waitsZ (md : Region.Mode) (ops : Array Oper) (z i : Nat) : Bool := match ops[z]? with
  | some o => o.after.any fun e => Region.binds md e && e.on == i
  | none => false
theorem waitsZ_not {ls : Array Bool} {i : Nat} (h : waitsZ md ops z i = true) (hun : ls.getD i true = false) : z ∉ Region.ready md ops ls := fun hz => by
  obtain ⟨_, oz, ho, hall⟩ := mem_ready.1 hz
  unfold waitsZ at h
  rw [ho] at h
  change (oz.after.any fun e => Region.binds md e && e.on == i) = true at h
  rw [← Array.any_toList, List.any_eq_true] at h
  obtain ⟨e, he0, hb⟩ := h
  have he : e ∈ oz.after := by simpa using he0
  simp only [Bool.and_eq_true, beq_iff_eq] at hb
  have h1 := hall e he hb.1
  rw [hb.2, getD_both hun] at h1
  cases h1
theorem upZ_first {i : Nat} {oi : Oper} {v : Value} (hi : ops[i]? = some oi) (hsel : ∀ (j : Nat) (o : Oper) cs b, ops[j]? = some o → o.op ≠ .select cs b)
    (hQ : ∀ c a w, Q (.panic c) (a.put oi.dst v) w → Q (.panic c) a w) (hz : waitsZ md ops z i = true) (hiz : i ≠ z) :
    ∀ (f : Nat) (ls : Array Bool) (a : Act) (w : World),
      (∀ j oj, ops[j]? = some oj → j ≠ i → ls.getD j true = false → (∀ e ∈ oj.after, Region.binds md e = true → e.on ≠ i) → oi.apart ops oj = true) →
      i ∈ Region.ready md ops ls → YieldsIf P ops S oi v a → S w →
      upZ P md ops Q S z f (ls.setIfInBounds i true) (a.put oi.dst v) w → upZ P md ops Q S z (f + 1) ls a w := by
  intro f
  induction f with
  | zero =>
    intro ls a w _ hr hy hS H
    refine ⟨fun h => (by rw [h] at hr; cases hr), fun j hj => ?_⟩
    rcases Classical.em (j = i) with rfl | hji
    · exact hy.wpOp hi hS ⟨fun _ => hS, H⟩
    · have := ready_mono hj hji
      rw [H.1] at this
      cases this
  | succ f ih =>
    intro ls a w hfree hr hy hS H
    refine ⟨fun h => (by rw [h] at hr; cases hr), fun j hj => ?_⟩
    rcases Classical.em (j = i) with rfl | hji
    · exact hy.wpOp hi hS ⟨fun _ => hS, H⟩
    · have hun := (mem_ready.1 hr).1
      have hjz : j ≠ z := fun e => waitsZ_not hz hun (e ▸ hj)
      obtain ⟨hjun, oj, hoj, hall⟩ := mem_ready.1 hj
      have hnot : ∀ e ∈ oj.after, Region.binds md e = true → e.on ≠ i := fun e he hb heq => by
        have h1 := hall e he hb
        rw [heq, getD_both hun] at h1
        cases h1
      refine wpOp_mono (fun a' w' h3 => ?_) (wpOp_putIf hoj (hfree j oj hoj hji hjun hnot) (fun cs b => hsel i oi cs b hi) (fun cs b => hsel j oj cs b hoj) hQ hy (H.2 j (ready_mono hj hji)))
      refine ⟨fun _ => h3.2.1 hjz, ih (ls.setIfInBounds j true) a' w' (fun k ok hk hki hu hno => hfree k ok hk hki ?_ hno) (ready_mono hr (Ne.symm hji)) h3.1 (h3.2.1 hjz) ?_⟩
      · rcases Classical.em (j = k) with rfl | hjk
        · exact hjun
        · rw [getD_set_ne true hjk] at hu; exact hu
      · rw [Array.setIfInBounds_comm _ _ hji]
        exact h3.2.2
/-- number i is taken first. -/
theorem upZ_take {i : Nat} {oi : Oper} {v : Value} {f : Nat} {ls : Array Bool} {a : Act} {w : World} (hi : ops[i]? = some oi)
    (hs : Region.noSelect ops = true) (hf : Region.free md ops ls i = true) (hr : (Region.ready md ops ls).contains i = true) (hz : (waitsZ md ops z i && i != z) = true)
    (hQ : ∀ c a w, Q (.panic c) (a.put oi.dst v) w → Q (.panic c) a w) (hy : YieldsIf P ops S oi v a) (hS : S w)
    (h : upZ P md ops Q S z f (ls.setIfInBounds i true) (a.put oi.dst v) w) : upZ P md ops Q S z (f + 1) ls a w := by
  simp only [Bool.and_eq_true, bne_iff_ne] at hz
  exact upZ_first hi (Region.noSelect_spec hs) hQ hz.1 hz.2 f ls a w (Region.free_spec hi hf) (by simpa using hr) hy hS h
/-- number i is the only one that may come up. -/
theorem upZ_only {i : Nat} {o : Oper} {f : Nat} {ls : Array Bool} {a : Act} {w : World} (hr : Region.ready md ops ls = [i]) (ho : ops[i]? = some o) (hiz : (i != z) = true)
    (h : ∀ K' : Act → World → Prop, Shut (∀ a w, S w → (S w → upZ P md ops Q S z f (ls.setIfInBounds i true) a w) → K' a w) → if Region.wanted o (yielded ops a.tmps) = true then Oper.wp P o a w K' Q else K' (a.put o.dst undef) w) : upZ P md ops Q S z (f + 1) ls a w := by
  have hiz' : i ≠ z := by simpa using hiz
  refine ⟨fun h => (by rw [h] at hr; cases hr), fun j hj => ?_⟩
  rw [hr, List.mem_singleton] at hj
  subst hj
  exact wpOp_step ho (fun K' hK => h K' (fun a w hS hW => hK a w ⟨fun _ => hS, hW hS⟩))
/-- the last one. -/
theorem upZ_last {o : Oper} {ls : Array Bool} {a : Act} {w : World} {f : Nat} (hr : Region.ready md ops ls = [z]) (ho : ops[z]? = some o) (he : Region.ready md ops (ls.setIfInBounds z true) = [])
    (h : ∀ K' : Act → World → Prop, Shut (∀ a w, Q .normal a w → K' a w) → if Region.wanted o (yielded ops a.tmps) = true then Oper.wp P o a w K' Q else K' (a.put o.dst undef) w) : upZ P md ops Q S z (f + 1) ls a w := by
  refine ⟨fun h => (by rw [h] at hr; cases hr), fun j hj => ?_⟩
  rw [hr, List.mem_singleton] at hj
  subst hj
  refine wpOp_step ho (fun K' hK => h K' (fun a w hW => hK a w ⟨fun e => absurd rfl e, ?_⟩))
  cases f with
  | zero => exact ⟨he, hW⟩
  | succ f => exact ⟨fun _ => hW, by rw [he]; simp⟩
theorem wp_region_upZ {id : Nat} {a : Act} {w : World} (z : Nat) (hm : P.follows .mixedOrders = true) (hS : S w.drew)
    (h : S w.drew → upZ P .any ops Q S z ops.size (Array.replicate ops.size false) a w.drew) : (Code.region id ops true).wp P Q a w :=
  wp_region_any hm (any_of_upZ _ _ _ _ (h hS))
end
end Go.Proofs.YtihakjcccbionaaGreatDoor

end
section
/-
  The walk of taken: a tunnel as the document has it.
-/
namespace Go.Proofs.YtihakjcccbionaaGreatDoor
open Go.RowKit
set_option maxRecDepth 100000
set_option linter.unusedVariables false
set_option linter.unusedSimpArgs false
attribute [local go_sem ↓] exec_span exec_put exec_build heap_alloc_new heap_old
attribute [local go_sem] spanQ_ptr spanC_some heap_of_drew heap_of_drewN putAt_ptr putOk_ptr oldOk_some World.setRow_alloc_new rs_tunG rs_rtunG rs_optG rs_roptG built_tunG built_rtunG built_optG built_roptG

theorem tunA_size (o : Bool) (p v : Int) (A : Option Addr) (n c : Nat) (I : Option Addr) (m k : Nat) : (tunA o p v A n c I m k).size = 5 := rfl
theorem tunA_one (o : Bool) (p v : Int) (A : Option Addr) (n c : Nat) (I : Option Addr) (m k : Nat) : allOne (tunA o p v A n c I m k) = true := by simp [tunA, allOne, Value.oneCell']
theorem tunA_x0 (o : Bool) (p v : Int) (A : Option Addr) (n c : Nat) (I : Option Addr) (m k : Nat) : (tunA o p v A n c I m k).extract 0 5 = tunA o p v A n c I m k := rfl
theorem alloc_tl (w : World) (o : Obj) : ∃ W, w.alloc o = W ∧ W.heap[w.heap.size]? = some o ∧ W.heap.size = w.heap.size + 1 ∧ Below w.heap.size w W :=
  ⟨_, rfl, heap_alloc_new _ _, by simp, (Below.refl _ _).alloc (Nat.le_refl _) _⟩
theorem grown_rowT (w : World) (g : Nat) (cs : Array Value) : w.grownBy (w.setRow g cs) (some g) :=
  ⟨rfl, rfl, rfl, by rw [setRow_size]; exact Nat.le_refl _, fun k hk hne => setRow_other w g k cs (fun e => hne (by rw [e]))⟩
/-- what given and taken hand back. -/
def TunP (w : World) (T : TuD) (e : Ending) (w' : World) : Prop := ∃ Y, e = .returned (.agg Y) ∧ TuG w' Y T ∧ Below w.heap.size w w'
set_option maxHeartbeats 8000000 in
theorem takenG_any (w : World) (X : Array Value) (T : TuD) (h : TuG w X T) (hl : T.l.length ≤ 1048576) :
    Calls Tryz.prog 14 #[.agg X] w (TunP w T) := by
  obtain ⟨A0, c0, l0, I0, k0, hX, hp⟩ := h
  obtain ⟨i0, hi, hz0, hz1, hz2⟩ := info_parts info_roptG
  have hlen := hp.len
  obtain ⟨n, hn⟩ : ∃ n, n = l0.length := ⟨_, rfl⟩
  rw [← hn] at hX hlen
  have HP := hide hp
  have HN := hide hn
  have HLEN := hide hlen
  have hn20 : n ≤ 1048576 := by rw [hlen]; exact hl
  obtain ⟨m, hm⟩ : ∃ m, m = T.D.length := ⟨_, rfl⟩
  rw [← hm] at hX
  have HM := hide hm
  obtain ⟨ou, hto⟩ : ∃ x, x = T.o := ⟨_, rfl⟩
  obtain ⟨tp, htp⟩ : ∃ x, x = T.p := ⟨_, rfl⟩
  obtain ⟨tv, htv⟩ : ∃ x, x = T.v := ⟨_, rfl⟩
  rw [← hto, ← htp, ← htv] at hX
  have HT := hide (And.intro hto (And.intro htp htv))
  have xs : X.size = 5 := by rw [hX]; rfl
  have xo : allOne X = true := by rw [hX]; exact tunA_one _ _ _ _ _ _ _ _ _
  have hcells := fun (W : World) (r : W.heap[w.heap.size]? = some (.cells X 38 (0, 0))) => (by rw [hX] at r; exact tunA_cells r : W.cell? ⟨w.heap.size, 0, none⟩ = some (.bool ou) ∧ W.cell? ⟨w.heap.size, 1, none⟩ = some (.int .i64 tp) ∧ W.cell? ⟨w.heap.size, 2, none⟩ = some (.int .i64 tv) ∧ W.cell? ⟨w.heap.size, 3, none⟩ = some (.slice A0 n c0) ∧ W.cell? ⟨w.heap.size, 4, none⟩ = some (.slice I0 m k0))
  have HC := hide hcells
  obtain ⟨Y0, hY0⟩ : ∃ Y, Y = tunA ou tp tv none 0 0 I0 m k0 := ⟨_, rfl⟩
  have hb0 := built_rtunG ou tp tv I0 m k0
  rw [← hY0] at hb0
  have y0s : Y0.size = 5 := by rw [hY0]; rfl
  have y0o : allOne Y0 = true := by rw [hY0]; exact tunA_one _ _ _ _ _ _ _ _ _
  have HY0 := hide hY0
  clear hp hn hlen hm hto htp htv hX hcells hY0 hl
  go_enter Tryz.func14, Tryz.ntmps14
  go_upto_region 1 with (fail)
  change Code.wp _ _ _ _ ((w.alloc (.cells X _)).alloc (.cells (tunA false 0 0 none 0 0 none 0 0) 30))
  obtain ⟨W0, hW0, r0, z0, b0⟩ := alloc_tl w (.cells X 38)
  rw [hW0]
  obtain ⟨W1, hW1, r1, z1, b1⟩ := alloc_tl W0 (.cells (tunA false 0 0 none 0 0 none 0 0) 30)
  rw [hW1]
  have r0' := (b1.block w.heap.size (by omega)).trans r0
  obtain ⟨d0, d1, d2, d3, d4⟩ := HC.out W1 r0'
  rw [z0] at r1
  obtain ⟨g1, hg1⟩ : ∃ g, w.heap.size + 1 = g := ⟨_, rfl⟩
  rw [hg1] at r1 ⊢
  have Z0 := hide (And.intro z0 (And.intro z1 hg1))
  have HB1 := hide (b0.trans (b1.mono (by omega)))
  clear hW0 hW1 z0 z1 b0 b1 hg1 r0
  go_upto_region 2 with (fail)
  obtain ⟨W2, hW2, r2, z2, b2⟩ := alloc_tl W1 (.cells Y0 30)
  rw [hW2]
  have q0 := (b2.block w.heap.size (by have := Z0.out; omega)).trans r0'
  have q1 := (b2.block g1 (by have := Z0.out; omega)).trans r1
  obtain ⟨g2, hg2⟩ : ∃ g, W1.heap.size = g := ⟨_, rfl⟩
  rw [hg2] at r2 ⊢
  have Z2 := hide (And.intro z2 hg2)
  have HB2 := hide (HB1.out.trans (b2.mono (by have := Z0.out; omega)))
  have HS0 : Hid (TlI w W2 g2 g1 30 59 T 0 none 0 I0 k0 []) := hide ⟨by rw [r2, HY0.out, HT.out.1, HT.out.2.1, HT.out.2.2, HM.out]; rfl, OgS.nil _ _ _, rfl, fun x hx => by simp at hx, (HP.out.i.below HB2.out).more HB2.out.size, fun hp a e => ⟨by have h9 := HP.out.i.blk hp e; have h8 := Z0.out; have h7 := Z2.out; constructor <;> omega, by simp [Value.ownBlock]⟩, HP.out.inn, HP.out.ik, HB2.out, by have := Z0.out; omega⟩
  have HQ := hide (And.intro q0 q1)
  clear hW2 z2 hg2 b2 r0' r1 d0 d1 d2 d3 d4 r2 q0 q1 hb0 y0s y0o
  go_wp2
  go_loopw [4] (fun i wr => ∃ (j : Nat) (A : Option Addr) (c : Nat) (l : List OpG), j ≤ n ∧ i = .int .i64 (j : Int) ∧ Hid (TlI w wr g2 g1 30 59 T j A c I0 k0 l) ∧ Hid (wr.heap[w.heap.size]? = some (.cells X 38 (0, 0)) ∧ wr.heap[g1]? = some (.cells (tunA false 0 0 none 0 0 none 0 0) 30 (0, 0)))) (fun i _ => n - (intOf i).toNat)
  case atStart => exact ⟨0, none, 0, [], by omega, rfl, HS0, HQ⟩
  case round =>
    obtain ⟨j, A, c, l, hj, rfl, hI, hQ⟩ := hrel
    obtain ⟨d0, d1, d2, d3, d4⟩ := HC.out wr hQ.out.1
    have hll := hI.out.len (by rw [← HLEN.out]; exact hj)
    by_cases hlt : j < n
    · have hjl : j < l0.length := by rw [← HN.out]; exact hlt
      obtain ⟨b, off, rfl, hbB, hc⟩ := HP.out.rd (by omega)
      obtain ⟨e0, e1, e2⟩ := hc j hjl
      have hsay := say_get HP.out.say hjl (by rw [← HLEN.out]; exact hlt)
      have hob := HP.out.ob l0[j] (List.getElem_mem hjl)
      obtain ⟨x, hx⟩ : ∃ x, x = l0[j] := ⟨_, rfl⟩
      rw [← hx] at e0 e1 e2 hsay hob
      obtain ⟨xc, xt, xa, xk, xd⟩ := x
      simp only at e0 e1 e2
      obtain ⟨xn, hxn⟩ : ∃ k, k = xd.length := ⟨_, rfl⟩
      rw [← hxn] at e2
      have HXN := hide hxn
      have f0 : wr.cell? ⟨b, off + j * 3, none⟩ = some (.int .i64 xc) := (hI.out.bel.cell (show (⟨b, off + j * 3, none⟩ : Addr).block < w.heap.size from hbB)).trans e0
      have f1 : wr.cell? ⟨b, off + j * 3 + 1, none⟩ = some (.int .i64 xt) := (hI.out.bel.cell (show (⟨b, off + j * 3 + 1, none⟩ : Addr).block < w.heap.size from hbB)).trans e1
      have f2 : wr.cell? ⟨b, off + j * 3 + 2, none⟩ = some (.slice xa xn xk) := (hI.out.bel.cell (show (⟨b, off + j * 3 + 2, none⟩ : Addr).block < w.heap.size from hbB)).trans e2
      have HSAY := hide hsay
      have HOB := hide hob
      have hown := hI.out.og.row
      have hbx := hI.out.box
      rw [hll] at hown hbx
      obtain ⟨y0, y1, y2, y3, y4⟩ := tunA_cells hbx
      have hA : (.slice A j c : Value).ownBlock ≠ some g2 := fun e => by have := (World.ownsRow.lt hown _ e).1; omega
      have HO := hide hown
      have HA := hide hA
      have HBX := hide hbx
      have HQL : Hid (w.heap.size < wr.heap.size) := hide (Array.getElem?_eq_some_iff.1 hQ.out.1).1
      have HBL : Hid (b < wr.heap.size) := hide (Nat.lt_of_lt_of_le hbB hI.out.bel.size)
      have hbB' : b < w.heap.size := hbB
      have HBB := hide hbB'
      have HLL := hide hll
      have HG2 := hide hI.out.lt
      have hj1 : (j : Int) < (n : Int) := by omega
      have hj0 : (0 : Int) ≤ (j : Int) := by omega
      clear hc e0 e1 e2 hsay hob hx hown hbx hA hll hbB hbB' hxn d0 d1 d2 d4 y0 y1 y2 y4 hjl
      have hown0 := HO.out
      have HLIT : Hid ((wr.drew.alloc (.cells #[.int .i64 xc, .int .i64 xt, .slice xa xn xk] 59)).heap[wr.heap.size]? = some (.cells #[.int .i64 xc, .int .i64 xt, .slice xa xn xk] 59 (0, 0))) := hide (heap_alloc_new wr.drew _)
      have HO2 : Hid ((wr.drew.alloc (.cells #[.int .i64 xc, .int .i64 xt, .slice xa xn xk] 59)).ownsRow (g2 + 1) 59 3 (.slice A j c) j (ogsC l)) := hide (World.ownsRow.alloc (w := wr.drew) hown0 _)
      have HB0 : Hid (Below wr.heap.size wr wr.drew) := hide (Below.refl _ _).drew
      have HBA : Hid (Below wr.heap.size wr (wr.drew.alloc (.cells #[.int .i64 xc, .int .i64 xt, .slice xa xn xk] 59))) := hide (HB0.out.alloc (Nat.le_refl _) _)
      have HB1 : Hid (j + 1 ≤ maxLen) := hide (by unfold maxLen; omega)
      have HB2 : Hid ((j + 1) * 40 ≤ 140737488355328) := hide (by omega)
      have HB3 : Hid (g2 + 1 ≤ (wr.drew.alloc (.cells #[.int .i64 xc, .int .i64 xt, .slice xa xn xk] 59)).heap.size) := hide (by have h0 := HG2.out; have h1 := HBA.out.size; omega)
      have HB4 : Hid ((wr.drew.alloc (.cells #[.int .i64 xc, .int .i64 xt, .slice xa xn xk] 59)).heap.size = wr.heap.size + 1) := hide (by simp)
      have HKP := hide (fun (W : World) (hb : Below wr.heap.size wr W) => (⟨(hb.cell (show (⟨w.heap.size, 3, none⟩ : Addr).block < wr.heap.size from HQL.out)).trans d3, (hb.cell (show (⟨b, off + j * 3, none⟩ : Addr).block < wr.heap.size from HBL.out)).trans f0, (hb.cell (show (⟨b, off + j * 3 + 1, none⟩ : Addr).block < wr.heap.size from HBL.out)).trans f1, (hb.cell (show (⟨b, off + j * 3 + 2, none⟩ : Addr).block < wr.heap.size from HBL.out)).trans f2, (hb.cell (show (⟨g2, 3, none⟩ : Addr).block < wr.heap.size from HG2.out)).trans y3⟩ : W.cell? ⟨w.heap.size, 3, none⟩ = some (.slice (some ⟨b, off, none⟩) n c0) ∧ W.cell? ⟨b, off + j * 3, none⟩ = some (.int .i64 xc) ∧ W.cell? ⟨b, off + j * 3 + 1, none⟩ = some (.int .i64 xt) ∧ W.cell? ⟨b, off + j * 3 + 2, none⟩ = some (.slice xa xn xk) ∧ W.cell? ⟨g2, 3, none⟩ = some (.slice A j c)))
      have HKG := hide (fun (W : World) (hg : (wr.drew.alloc (.cells #[.int .i64 xc, .int .i64 xt, .slice xa xn xk] 59)).grownBy W (Value.slice A j c).ownBlock) => (by
        obtain ⟨k0', k1', k2', k3', k4'⟩ := HKP.out _ HBA.out
        have hlo := hI.out.lo
        have hbb := HBB.out
        have hne : ∀ i, i ≤ g2 → some i ≠ (Value.slice A j c).ownBlock := fun i hi e => by have := (World.ownsRow.lt hown0 i e.symm).1; omega
        exact ⟨hg.cell k0' (hne _ (by show w.heap.size ≤ g2; omega)), hg.cell k1' (hne _ (by show b ≤ g2; omega)), hg.cell k2' (hne _ (by show b ≤ g2; omega)), hg.cell k3' (hne _ (by show b ≤ g2; omega)), hg.cell k4' (hne _ (Nat.le_refl _))⟩ : W.cell? ⟨w.heap.size, 3, none⟩ = some (.slice (some ⟨b, off, none⟩) n c0) ∧ W.cell? ⟨b, off + j * 3, none⟩ = some (.int .i64 xc) ∧ W.cell? ⟨b, off + j * 3 + 1, none⟩ = some (.int .i64 xt) ∧ W.cell? ⟨b, off + j * 3 + 2, none⟩ = some (.slice xa xn xk) ∧ W.cell? ⟨g2, 3, none⟩ = some (.slice A j c)))
      clear hown0 y3 f0 f1 f2
      go_wp2_with fail
      refine wp_region_upZ (S := (fun w' => w'.cell? ⟨w.heap.size, 3, none⟩ = some (.slice (some ⟨b, off, none⟩) n c0) ∧ w'.cell? ⟨b, off + j * 3, none⟩ = some (.int .i64 xc) ∧ w'.cell? ⟨b, off + j * 3 + 1, none⟩ = some (.int .i64 xt) ∧ w'.cell? ⟨b, off + j * 3 + 2, none⟩ = some (.slice xa xn xk) ∧ w'.cell? ⟨g2, 3, none⟩ = some (.slice A j c))) 24 (by kernel_rfl) (HKP.out _ HB0.out) (fun hHeld => ?_)
      refine upZ_take (i := 0) (oi := ⟨some 21, _, _, _, _, _⟩) (v := ?_) rfl (by kernel_rfl) (by kernel_rfl) (by kernel_rfl) (by kernel_rfl) (fun _ _ _ h => h) (Or.inl ⟨by rfl, ?_⟩) hHeld ?_
      rotate_left
      · (intro w' hSw; (try dsimp only at hSw); go_split_ands; go_simp; try with_reducible rfl)
      (try simp only [Act.put, List.setIfInBounds_toArray, List.set_cons_zero, List.set_cons_succ])
      refine upZ_take (i := 1) (oi := ⟨some 22, _, _, _, _, _⟩) (v := ?_) rfl (by kernel_rfl) (by kernel_rfl) (by kernel_rfl) (by kernel_rfl) (fun _ _ _ h => h) (Or.inl ⟨by rfl, ?_⟩) hHeld ?_
      rotate_left
      · (intro w' hSw; (try dsimp only at hSw); go_split_ands; go_simp; try with_reducible rfl)
      (try simp only [Act.put, List.setIfInBounds_toArray, List.set_cons_zero, List.set_cons_succ])
      refine upZ_take (i := 2) (oi := ⟨some 23, _, _, _, _, _⟩) (v := ?_) rfl (by kernel_rfl) (by kernel_rfl) (by kernel_rfl) (by kernel_rfl) (fun _ _ _ h => h) (Or.inl ⟨by rfl, ?_⟩) hHeld ?_
      rotate_left
      · (intro w' hSw; (try dsimp only at hSw); go_split_ands; go_simp; try with_reducible rfl)
      (try simp only [Act.put, List.setIfInBounds_toArray, List.set_cons_zero, List.set_cons_succ])
      refine upZ_take (i := 3) (oi := ⟨some 24, _, _, _, _, _⟩) (v := ?_) rfl (by kernel_rfl) (by kernel_rfl) (by kernel_rfl) (by kernel_rfl) (fun _ _ _ h => h) (Or.inl ⟨by rfl, ?_⟩) hHeld ?_
      rotate_left
      · (intro w' hSw; (try dsimp only at hSw); go_split_ands; go_simp; try with_reducible rfl)
      (try simp only [Act.put, List.setIfInBounds_toArray, List.set_cons_zero, List.set_cons_succ])
      refine upZ_take (i := 4) (oi := ⟨some 25, _, _, _, _, _⟩) (v := ?_) rfl (by kernel_rfl) (by kernel_rfl) (by kernel_rfl) (by kernel_rfl) (fun _ _ _ h => h) (Or.inl ⟨by rfl, ?_⟩) hHeld ?_
      rotate_left
      · (intro w' hSw; (try dsimp only at hSw); go_split_ands; go_simp; try with_reducible rfl)
      (try simp only [Act.put, List.setIfInBounds_toArray, List.set_cons_zero, List.set_cons_succ])
      refine upZ_take (i := 5) (oi := ⟨some 26, _, _, _, _, _⟩) (v := ?_) rfl (by kernel_rfl) (by kernel_rfl) (by kernel_rfl) (by kernel_rfl) (fun _ _ _ h => h) (Or.inl ⟨by rfl, ?_⟩) hHeld ?_
      rotate_left
      · (intro w' hSw; (try dsimp only at hSw); go_split_ands; go_simp; try with_reducible rfl)
      (try simp only [Act.put, List.setIfInBounds_toArray, List.set_cons_zero, List.set_cons_succ])
      refine upZ_take (i := 6) (oi := ⟨some 27, _, _, _, _, _⟩) (v := ?_) rfl (by kernel_rfl) (by kernel_rfl) (by kernel_rfl) (by kernel_rfl) (fun _ _ _ h => h) (Or.inl ⟨by rfl, ?_⟩) hHeld ?_
      rotate_left
      · (intro w' hSw; (try dsimp only at hSw); go_split_ands; go_simp; try with_reducible rfl)
      (try simp only [Act.put, List.setIfInBounds_toArray, List.set_cons_zero, List.set_cons_succ])
      refine upZ_take (i := 7) (oi := ⟨some 28, _, _, _, _, _⟩) (v := ?_) rfl (by kernel_rfl) (by kernel_rfl) (by kernel_rfl) (by kernel_rfl) (fun _ _ _ h => h) (Or.inl ⟨by rfl, ?_⟩) hHeld ?_
      rotate_left
      · (intro w' hSw; (try dsimp only at hSw); go_split_ands; go_simp; try with_reducible rfl)
      (try simp only [Act.put, List.setIfInBounds_toArray, List.set_cons_zero, List.set_cons_succ])
      refine upZ_take (i := 8) (oi := ⟨some 29, _, _, _, _, _⟩) (v := ?_) rfl (by kernel_rfl) (by kernel_rfl) (by kernel_rfl) (by kernel_rfl) (fun _ _ _ h => h) (Or.inl ⟨by rfl, ?_⟩) hHeld ?_
      rotate_left
      · (intro w' hSw; (try dsimp only at hSw); go_split_ands; go_simp; try with_reducible rfl)
      (try simp only [Act.put, List.setIfInBounds_toArray, List.set_cons_zero, List.set_cons_succ])
      refine upZ_take (i := 9) (oi := ⟨some 30, _, _, _, _, _⟩) (v := ?_) rfl (by kernel_rfl) (by kernel_rfl) (by kernel_rfl) (by kernel_rfl) (fun _ _ _ h => h) (Or.inl ⟨by rfl, ?_⟩) hHeld ?_
      rotate_left
      · (intro w' hSw; (try dsimp only at hSw); go_split_ands; go_simp; try with_reducible rfl)
      (try simp only [Act.put, List.setIfInBounds_toArray, List.set_cons_zero, List.set_cons_succ])
      refine upZ_take (i := 10) (oi := ⟨some 31, _, _, _, _, _⟩) (v := ?_) rfl (by kernel_rfl) (by kernel_rfl) (by kernel_rfl) (by kernel_rfl) (fun _ _ _ h => h) (Or.inl ⟨by rfl, ?_⟩) hHeld ?_
      rotate_left
      · (intro w' hSw; (try dsimp only at hSw); go_split_ands; go_simp; try with_reducible rfl)
      (try simp only [Act.put, List.setIfInBounds_toArray, List.set_cons_zero, List.set_cons_succ])
      refine upZ_take (i := 11) (oi := ⟨some 32, _, _, _, _, _⟩) (v := ?_) rfl (by kernel_rfl) (by kernel_rfl) (by kernel_rfl) (by kernel_rfl) (fun _ _ _ h => h) (Or.inl ⟨by rfl, ?_⟩) hHeld ?_
      rotate_left
      · (intro w' hSw; (try dsimp only at hSw); go_split_ands; go_simp; try with_reducible rfl)
      (try simp only [Act.put, List.setIfInBounds_toArray, List.set_cons_zero, List.set_cons_succ])
      refine upZ_take (i := 12) (oi := ⟨some 33, _, _, _, _, _⟩) (v := ?_) rfl (by kernel_rfl) (by kernel_rfl) (by kernel_rfl) (by kernel_rfl) (fun _ _ _ h => h) (Or.inl ⟨by rfl, ?_⟩) hHeld ?_
      rotate_left
      · (intro w' hSw; (try dsimp only at hSw); go_split_ands; go_simp; try with_reducible rfl)
      (try simp only [Act.put, List.setIfInBounds_toArray, List.set_cons_zero, List.set_cons_succ])
      refine upZ_take (i := 13) (oi := ⟨some 34, _, _, _, _, _⟩) (v := ?_) rfl (by kernel_rfl) (by kernel_rfl) (by kernel_rfl) (by kernel_rfl) (fun _ _ _ h => h) (Or.inl ⟨by rfl, ?_⟩) hHeld ?_
      rotate_left
      · (intro w' hSw; (try dsimp only at hSw); go_split_ands; go_simp; try with_reducible rfl)
      (try simp only [Act.put, List.setIfInBounds_toArray, List.set_cons_zero, List.set_cons_succ])
      refine upZ_take (i := 14) (oi := ⟨some 35, _, _, _, _, _⟩) (v := ?_) rfl (by kernel_rfl) (by kernel_rfl) (by kernel_rfl) (by kernel_rfl) (fun _ _ _ h => h) (Or.inl ⟨by rfl, ?_⟩) hHeld ?_
      rotate_left
      · (intro w' hSw; (try dsimp only at hSw); go_split_ands; go_simp; try with_reducible rfl)
      (try simp only [Act.put, List.setIfInBounds_toArray, List.set_cons_zero, List.set_cons_succ])
      refine upZ_take (i := 15) (oi := ⟨some 36, _, _, _, _, _⟩) (v := ?_) rfl (by kernel_rfl) (by kernel_rfl) (by kernel_rfl) (by kernel_rfl) (fun _ _ _ h => h) (Or.inl ⟨by rfl, ?_⟩) hHeld ?_
      rotate_left
      · (intro w' hSw; (try dsimp only at hSw); go_split_ands; go_simp; try with_reducible rfl)
      (try simp only [Act.put, List.setIfInBounds_toArray, List.set_cons_zero, List.set_cons_succ])
      refine upZ_take (i := 16) (oi := ⟨some 37, _, _, _, _, _⟩) (v := ?_) rfl (by kernel_rfl) (by kernel_rfl) (by kernel_rfl) (by kernel_rfl) (fun _ _ _ h => h) (Or.inl ⟨by rfl, ?_⟩) hHeld ?_
      rotate_left
      · (intro w' hSw; (try dsimp only at hSw); go_split_ands; go_simp; try with_reducible rfl)
      (try simp only [Act.put, List.setIfInBounds_toArray, List.set_cons_zero, List.set_cons_succ])
      refine upZ_take (i := 17) (oi := ⟨some 38, _, _, _, _, _⟩) (v := ?_) rfl (by kernel_rfl) (by kernel_rfl) (by kernel_rfl) (by kernel_rfl) (fun _ _ _ h => h) (Or.inl ⟨by rfl, ?_⟩) hHeld ?_
      rotate_left
      · (intro w' hSw; (try dsimp only at hSw); go_split_ands; go_simp; try with_reducible rfl)
      (try simp only [Act.put, List.setIfInBounds_toArray, List.set_cons_zero, List.set_cons_succ])
      refine upZ_take (i := 18) (oi := ⟨some 39, _, _, _, _, _⟩) (v := ?_) rfl (by kernel_rfl) (by kernel_rfl) (by kernel_rfl) (by kernel_rfl) (fun _ _ _ h => h) (Or.inl ⟨by rfl, ?_⟩) hHeld ?_
      rotate_left
      · (intro w' hSw; (try dsimp only at hSw); go_split_ands; go_simp; try with_reducible rfl)
      (try simp only [Act.put, List.setIfInBounds_toArray, List.set_cons_zero, List.set_cons_succ])
      refine upZ_take (i := 19) (oi := ⟨some 40, _, _, _, _, _⟩) (v := ?_) rfl (by kernel_rfl) (by kernel_rfl) (by kernel_rfl) (by kernel_rfl) (fun _ _ _ h => h) (Or.inl ⟨by rfl, ?_⟩) hHeld ?_
      rotate_left
      · (intro w' hSw; (try dsimp only at hSw); go_split_ands; go_simp; try with_reducible rfl)
      (try simp only [Act.put, List.setIfInBounds_toArray, List.set_cons_zero, List.set_cons_succ])
      refine upZ_take (i := 20) (oi := ⟨some 41, _, _, _, _, _⟩) (v := ?_) rfl (by kernel_rfl) (by kernel_rfl) (by kernel_rfl) (by kernel_rfl) (fun _ _ _ h => h) (Or.inl ⟨by rfl, ?_⟩) hHeld ?_
      rotate_left
      · (intro w' hSw; (try dsimp only at hSw); go_split_ands; go_simp; try with_reducible rfl)
      (try simp only [Act.put, List.setIfInBounds_toArray, List.set_cons_zero, List.set_cons_succ])
      refine upZ_only (i := 21) (o := ⟨some 42, _, _, _, _, _⟩) (by kernel_rfl) rfl rfl (fun K hK => ?_)
      go_simp
      refine hK.out _ _ (HKP.out _ HBA.out) (fun hHeld => ?_)
      clear hK K
      (try simp only [Act.put, List.setIfInBounds_toArray, List.set_cons_zero, List.set_cons_succ])
      refine upZ_only (i := 22) (o := ⟨some 43, _, _, _, _, _⟩) (by kernel_rfl) rfl rfl (fun K hK => ?_)
      refine step_append_lies _ rfl _ _ _ (by rfl) (g2 + 1) 59 i0 _ 3 40 Tryz.underlying27 hi hz0 hz1 hz2 rfl (by omega) (.slice A j c) j (ogsC l) (by rfl) HO2.out ⟨wr.heap.size, 0, none⟩ 1 1 [.int .i64 xc, .int .i64 xt, .slice xa xn xk] (by rfl) (by rfl) (World.news_of_block (cs := #[.int .i64 xc, .int .i64 xt, .slice xa xn xk]) (t := 59) (fr := (0, 0)) HLIT.out) (by simp [Value.oneCell']) (by omega) HB1.out HB2.out HB3.out (wr.heap.size + 1) HB4.out ?_
      intro gg cap w4 hown4 hgrow hat hlt4
      have HHG := hide hgrow
      have HHO := hide hown4
      have HAT := hide hat
      clear hown4 hgrow hat hlt4
      refine hK.out _ _ (HKG.out _ HHG.out) (fun hHeld => ?_)
      clear hK K
      (try simp only [Act.put, List.setIfInBounds_toArray, List.set_cons_zero, List.set_cons_succ])
      refine upZ_take (i := 23) (oi := ⟨some 44, _, _, _, _, _⟩) (v := ?_) rfl (by kernel_rfl) (by kernel_rfl) (by kernel_rfl) (by kernel_rfl) (fun _ _ _ h => h) (Or.inl ⟨by rfl, ?_⟩) hHeld ?_
      rotate_left
      · (intro w' hSw; (try dsimp only at hSw); go_split_ands; go_simp; try with_reducible rfl)
      (try simp only [Act.put, List.setIfInBounds_toArray, List.set_cons_zero, List.set_cons_succ])
      refine upZ_last (o := ⟨none, _, _, _, _, _⟩) (by kernel_rfl) rfl (by kernel_rfl) (fun K hK => ?_)
      have c4 := hHeld.2.2.2.2
      have s4 : w4.heap[g2]? = wr.heap[g2]? := (HHG.out.block g2 (Nat.lt_of_lt_of_le HG2.out HBA.out.size) (fun e => HA.out e.symm)).trans (HBA.out.block g2 HG2.out)
      have f4 := frozen_of_row w4 g2 3 _ _ (s4.trans HBX.out)
      clear hHeld s4
      go_simp
      refine hK.out _ _ ?_
      clear hK K
      (try simp only [Act.put, List.setIfInBounds_toArray, List.set_cons_zero, List.set_cons_succ])
      have hG2 : wr.grownBy w4 (Value.slice A l.length c).ownBlock := by
        rw [HLL.out]
        exact ⟨HHG.out.os.trans HBA.out.os, HHG.out.tape.trans HBA.out.tape, HHG.out.output.trans HBA.out.output, Nat.le_trans HBA.out.size HHG.out.size, fun k hk hne => (HHG.out.block k (Nat.lt_of_lt_of_le hk HBA.out.size) hne).trans (HBA.out.block k hk)⟩
      have hI2 : Hid (TlI w (w4.setCell ⟨g2, 3, none⟩ (.slice (some ⟨gg, 0, none⟩) (j + 1) cap)) g2 g1 30 59 T (j + 1) (some ⟨gg, 0, none⟩) cap I0 k0 (l ++ [⟨xc, xt, xa, xk, xd⟩])) := hide (by
        have := hI.out.snoc (x := ⟨xc, xt, xa, xk, xd⟩) (gg := gg) (cap := cap) hG2 (by rw [HLL.out]; unfold ogC; rw [← HXN.out]; exact HHO.out) (by
          rcases HAT.out with h1 | h1
          · exact .inl (by rw [HLL.out]; exact h1)
          · exact .inr (by omega)) ⟨(HOB.out.1.below hI.out.bel).more hI.out.bel.size, HOB.out.2⟩ (fun hp a e => ⟨by have h9 := HOB.out.1.blk hp e; have h8 := Z0.out; have h7 := hI.out.lo; constructor <;> omega, fun e2 => by
            have h1 := HOB.out.1.blk hp e
            have h2 := (World.ownsRow.lt hI.out.og.row _ e2).1
            have := hI.out.lo; omega⟩) (by rw [← HLEN.out]; exact hlt) HSAY.out
        rwa [HLL.out] at this)
      have hQ2 : Hid ((w4.setCell ⟨g2, 3, none⟩ (.slice (some ⟨gg, 0, none⟩) (j + 1) cap)).heap[w.heap.size]? = some (.cells X 38 (0, 0)) ∧ (w4.setCell ⟨g2, 3, none⟩ (.slice (some ⟨gg, 0, none⟩) (j + 1) cap)).heap[g1]? = some (.cells (tunA false 0 0 none 0 0 none 0 0) 30 (0, 0))) := hide ⟨(hI.out.snoc_old hG2 (by have := Z0.out; have := Z2.out; omega) _).trans hQ.out.1, (hI.out.snoc_old hG2 (by have := Z0.out; have := Z2.out; omega) _).trans hQ.out.2⟩
      clear hG2 HHO HHG HAT HKG HKP c4 f4
      go_wp2
      go_roundw
      (case rel => exact ⟨j + 1, some ⟨gg, 0, none⟩, cap, _, by omega, by go_num, hI2, hQ2⟩)
      (case measure => simp [intOf]; omega)
    · obtain rfl : j = n := by omega
      have hI3 := hI.out
      rw [HLEN.out] at hI3
      have rz := hQ.out.2
      have hbx := hI.out.box
      rw [hll] at hbx
      obtain ⟨Y, hY⟩ : ∃ Y, Y = tunA T.o T.p T.v A j c I0 T.D.length k0 := ⟨_, rfl⟩
      rw [← hY] at hbx
      have ys : Y.size = 5 := by rw [hY]; rfl
      have yx : Y.extract 0 5 = Y := by rw [hY]; rfl
      have yo : allOne Y = true := by rw [hY]; exact tunA_one _ _ _ _ _ _ _ _ _
      obtain ⟨Z, hZ⟩ : ∃ Z, Z = tunA false 0 0 none 0 0 none 0 0 := ⟨_, rfl⟩
      rw [← hZ] at rz
      have zs : Z.size = 5 := by rw [hZ]; rfl
      have HY := hide hY
      have HI3 := hide hI3
      have HLL := hide hll
      clear hI hI3 hY hZ hlt d0 d1 d2 d4 hll
      go_wp2
      refine bodyPost_ret (results_cell_row (fn := Tryz.f14) Tryz.results14 _ _ g1 30 Y (0, 0) _ rfl (setRow_heap wr _ _ _ _ _ rz) Tryz.underlying30 rfl (by rw [ys]; exact info_rtunG)) rfl ?_
      have h4 := (HI3.out.box2 (grown_rowT wr g1 Y) (by have := Z0.out; omega) (by have := Z0.out; have := Z2.out; omega))
      have h5 := h4.all
      rw [HLL.out, ← HY.out] at h5
      exact ⟨Y, rfl, h5, h4.bel⟩
end Go.Proofs.YtihakjcccbionaaGreatDoor

end
section
/-
  The walk of geneve.parseOpts.
-/
namespace Go.Proofs.YtihakjcccbionaaGreatDoor
open Go.RowKit
set_option maxRecDepth 100000
set_option linter.unusedVariables false
set_option linter.unusedSimpArgs false
attribute [local go_sem ↓] exec_span exec_put exec_build heap_alloc_new heap_old
attribute [local go_sem] spanQ_ptr spanC_some heap_of_drew heap_of_drewN putAt_ptr putOk_ptr oldOk_some World.setRow_alloc_new rs_tunG rs_rtunG rs_optG rs_roptG

theorem RdS.growG {g : Nat} {A : Option Addr} {l : List UInt8} {c k : Nat} {er : Int} {w w' : World} {row : Option Nat} (h : RdS g A l c w k er) (hg : w.grownBy w' row) (hr : ∀ i, row = some i → g < i) : RdS g A l c w' k er :=
  ⟨h.rd.grown hg (fun e => by have := hr g e; omega), fun hl => by
    obtain ⟨b, off, e, hb, hc⟩ := h.by' hl
    exact ⟨b, off, e, hb, fun i hi => hg.cell (hc i hi) (fun e2 => by have := hr b e2.symm; omega)⟩, h.le⟩
theorem and_i64 {N : Nat} (j : Nat) (hj : j ≤ 32) (h : N < 9223372036854775808) : bits BinOp.and IntKind.i64 (N : Int) ((2 ^ j - 1 : Nat) : Int) = ((N % 2 ^ j : Nat) : Int) := by
  have h2 : 2 ^ j ≤ 2 ^ 32 := Nat.pow_le_pow_right (by decide) hj
  have e := i64_and_nat N (2 ^ j - 1) h (by omega)
  rwa [Nat.and_two_pow_sub_one_eq_mod] at e
theorem and31 {N : Nat} (h : N < 256) : bits BinOp.and IntKind.i64 (N : Int) 31 = ((N % 32 : Nat) : Int) := and_i64 5 (by decide) (by omega)
theorem and63 {N : Nat} (h : N < 256) : bits BinOp.and IntKind.i64 (N : Int) 63 = ((N % 64 : Nat) : Int) := and_i64 6 (by decide) (by omega)
theorem nat_and224 : ∀ n : Fin 256, (n.val &&& 224) = 32 * (n.val / 32) := by decide +kernel
theorem nat_and64 : ∀ n : Fin 256, (n.val &&& 64) = 64 * (n.val / 64 % 2) := by decide +kernel
theorem nat_and128 : ∀ n : Fin 256, (n.val &&& 128) = 128 * (n.val / 128) := by decide +kernel
theorem and224 {N : Nat} (h : N < 256) : bits BinOp.and IntKind.i64 (N : Int) 224 = ((32 * (N / 32) : Nat) : Int) := by
  rw [show (224 : Int) = ((224 : Nat) : Int) from rfl, i64_and_nat N 224 (by omega) (by decide), nat_and224 ⟨N, h⟩]
theorem and64 {N : Nat} (h : N < 256) : bits BinOp.and IntKind.i64 (N : Int) 64 = ((64 * (N / 64 % 2) : Nat) : Int) := by
  rw [show (64 : Int) = ((64 : Nat) : Int) from rfl, i64_and_nat N 64 (by omega) (by decide), nat_and64 ⟨N, h⟩]
theorem and128 {N : Nat} (h : N < 256) : bits BinOp.and IntKind.i64 (N : Int) 128 = ((128 * (N / 128) : Nat) : Int) := by
  rw [show (128 : Int) = ((128 : Nat) : Int) from rfl, i64_and_nat N 128 (by omega) (by decide), nat_and128 ⟨N, h⟩]
theorem wrap_i64q {n : Nat} (h : n < 9223372036854775808) : IntKind.i64.wrap (n : Int) = (n : Int) := by rw [IntKind.wrap_i64]; omega
def kOfG (w : World) (g : Nat) : Nat := match w.cell? ⟨g, 1, none⟩ with
  | some (.int _ z) => z.toNat
  | _ => 0
theorem kOfG_rd {w : World} {g : Nat} {A : Option Addr} {n c k : Nat} {er : Int} (h : Rd w g A n c k er) : kOfG w g = k := by
  unfold kOfG; rw [h.c1]; rfl
/-- options read so far, and what is left to read. -/
structure PoI (w wr : World) (g : Nat) (A : Option Addr) (c : Nat) (b : List UInt8) (R : List OpD × Int) (v : Value) (K n : Nat) (l : List OpG) : Prop where
  rd : RdS g A b c wr K 0
  og : OgS wr (g + 1) 60 v l
  far : ∀ x ∈ l, 0 < x.d.length → ∀ a, x.a = some a → g < a.block
  len : l.length ≤ K
  fuel : b.length ≤ K + n
  res : optsP b n K (l.map OpG.say) = R
  bel : Below w.heap.size w wr
  lo : w.heap.size ≤ g
/-- what parseOpts hands back. -/
def PoR (w : World) (R : List OpD × Int) (e : Ending) (w' : World) : Prop :=
  ∃ A c l m, e = .returned (.tuple #[.slice A m c, .int .i64 R.2]) ∧ m = l.length ∧ m ≤ 65536 ∧ l.map OpG.say = R.1 ∧ m ≤ c ∧ RdG w' w'.heap.size A l ∧ OgB w' w'.heap.size l ∧ (∀ a, A = some a → w.heap.size ≤ a.block) ∧ (∀ x ∈ l, 0 < x.d.length → ∀ a, x.a = some a → w.heap.size ≤ a.block) ∧ Below w.heap.size w w'
theorem optsP_end {b : List UInt8} {n K : Nat} {acc : List OpD} (h : b.length ≤ K) : optsP b n K acc = (acc, 0) := by
  cases n with
  | zero => rfl
  | succ n => unfold optsP; rw [if_pos h]
theorem optsP_short {b : List UInt8} {n K : Nat} {acc : List OpD} (h : K < b.length) (hf : b.length ≤ K + n) (h2 : b.length < K + 4 + 4 * (atN b (K + 3) 1 % 32)) : optsP b n K acc = ([], 10) := by
  cases n with
  | zero => omega
  | succ n => unfold optsP; rw [if_neg (by omega), if_pos h2]
theorem optsP_form {b : List UInt8} {n K : Nat} {acc : List OpD} (h : K < b.length) (hf : b.length ≤ K + n) (h2 : K + 4 + 4 * (atN b (K + 3) 1 % 32) ≤ b.length) (h3 : 32 ≤ atN b (K + 3) 1) : optsP b n K acc = ([], 11) := by
  cases n with
  | zero => omega
  | succ n => unfold optsP; rw [if_neg (by omega), if_neg (by omega), if_pos h3]
theorem optsP_next {b : List UInt8} {n K : Nat} {acc : List OpD} (h : K < b.length) (hf : b.length ≤ K + n) (h2 : K + 4 + 4 * (atN b (K + 3) 1 % 32) ≤ b.length) (h3 : atN b (K + 3) 1 < 32) :
    ∃ m, n = m + 1 ∧ optsP b n K acc = optsP b m (K + 4 + 4 * (atN b (K + 3) 1 % 32)) (acc ++ [((atN b K 2 : Int), (atN b (K + 2) 1 : Int), (b.drop (K + 4)).take (4 * (atN b (K + 3) 1 % 32)))]) := by
  cases n with
  | zero => omega
  | succ n => exact ⟨n, rfl, by rw [optsP, if_neg (by omega), if_neg (by omega), if_neg (by omega)]⟩

theorem built_opt2 (c t : Int) : Tryz.prog.built 60 [(0, .int .i64 c), (1, .int .i64 t)] = some #[.int .i64 c, .int .i64 t, .slice none 0 0] := by kernel_rfl
theorem opt_cells {w : World} {g : Nat} {c t : Int} {v : Value} {ty : TypeId} (hg : w.heap[g]? = some (.cells #[.int .i64 c, .int .i64 t, v] ty (0, 0))) :
    w.cell? ⟨g, 0, none⟩ = some (.int .i64 c) ∧ w.cell? ⟨g, 1, none⟩ = some (.int .i64 t) ∧ w.cell? ⟨g, 2, none⟩ = some v :=
  ⟨(cell_of_row w g 0 _ _ (0, 0) hg).trans rfl, (cell_of_row w g 1 _ _ (0, 0) hg).trans rfl, (cell_of_row w g 2 _ _ (0, 0) hg).trans rfl⟩
/-- the load of a whole struct, in a plain list. -/
theorem wpList_spanG {P : Program} {w : World} {ops : Array Oper} {rest : List Oper} {o : Oper} {a : Act} {Q : Exit → Act → World → Prop} (hgd : o.guard = none) (t : TypeId) (x : Operand)
    (ho : o.op = .load t x) (v : Value) (hx : a.eval x = v) {cs : Array Value} (hs : spanQ P t w v = some cs) (h : wpList P ops Q rest (a.put o.dst (.agg cs)) w) : wpList P ops Q (o :: rest) a w := by
  refine wpList_plain hgd fun K hK => ?_
  unfold Oper.wp execOp
  simp only [ho, Sem.run_bind, Sem.run_pure, hx, run_span hs, Result.andThen_ok]
  exact hK _ _ h
/-- what was asked of a Reader: where it stands then, and what else is as it was. -/
theorem PoI.asked {w wr w2 : World} {g : Nat} {A : Option Addr} {c : Nat} {b : List UInt8} {R : List OpD × Int} {v : Value} {K n : Nat} {l : List OpG} (h : PoI w wr g A c b R v K n l) (hg : wr.grownBy w2 (some g)) :
    OgS w2 (g + 1) 60 v l ∧ Below w.heap.size w w2 :=
  ⟨h.og.box hg (Nat.lt_succ_self _) (fun x hx hp a e e2 => by have := h.far x hx hp a e; omega), h.bel.grown hg h.bel.size (fun k e => by cases e; exact h.lo)⟩
set_option maxHeartbeats 8000000 in
theorem parseOpts_any (w : World) (A : Option Addr) (c : Nat) (b : List UInt8) (hb : Byt w w.heap.size A b) (hn : b.length ≤ 65536) :
    Calls Tryz.prog 54 #[.slice A b.length c] w (PoR w (optsP b b.length 0 [])) := by
  have KN := hide (newS w w.heap.size A b c (by omega) hb (Nat.le_refl _))
  obtain ⟨R, hR⟩ : ∃ R, R = optsP b b.length 0 [] := ⟨_, rfl⟩
  rw [← hR]
  have HR := hide hR
  have HN := hide hn
  obtain ⟨i0, hi, hz0, hz1, hz2⟩ := info_parts info_optG
  clear hR hn hb
  go_enter Tryz.func54, Tryz.ntmps54
  go_wp2_with fail
  refine KN.out.mono ?_
  rintro e w1 ⟨g, A', c', rfl, hRd, hl', hat, hg, hb1⟩
  have HI0 : Hid (PoI w w1 g A' c' b R (.slice none 0 0) 0 b.length []) := hide ⟨hRd, OgS.nil _ _ _, fun x hx => by simp at hx, Nat.zero_le _, by omega, HR.out.symm, hb1, hg⟩
  have HGW := hide hg
  clear KN hb1 hRd hat hg
  dsimp only
  go_wp2
  go_loopw [5, 6, 7, 8] (fun v _ _ _ wr => ∃ K n l, Hid (PoI w wr g A' c' b R v K n l)) (fun _ _ _ _ wr => b.length - kOfG wr g)
  case atStart => exact ⟨0, _, [], HI0⟩
  case round =>
    obtain ⟨K, n, l, hI⟩ := hrel
    have hK0 := hI.out.rd.le
    have hkof := kOfG_rd hI.out.rd.rd
    have HKOF := hide hkof
    have HNB : Hid (b.length ≤ 140737488420864) := hide (by have := HN.out; omega)
    clear hkof
    go_wp2_with fail
    refine (left_any wr g A' b.length c' K 0 hI.out.rd.rd HNB.out hK0).mono ?_
    rintro e w2 ⟨rfl, q, rfl⟩
    obtain ⟨W, hW⟩ : ∃ W, W = wr.drewN q := ⟨_, rfl⟩
    have hI1 : Hid (PoI w W g A' c' b R u5 K n l) := hide (by
      rw [hW]
      have hb : Below wr.heap.size wr (wr.drewN q) := below_drewN (Below.refl _ _) q
      exact ⟨hI.out.rd.below hb, hI.out.og.below hb, hI.out.far, hI.out.len, hI.out.fuel, hI.out.res, hI.out.bel.trans (hb.mono hI.out.bel.size), hI.out.lo⟩)
    rw [← hW]
    clear hW hI
    dsimp only
    by_cases hlt : K < b.length
    · have hgt : (b.length : Int) - (K : Int) > 0 := by omega
      have hj0 : RdI b K K 0 := .inl ⟨rfl, rfl, by omega⟩
      go_wp2_with fail
      refine (numI (g := g) (c := c') (A := A') W 2 hI1.out.rd hj0 (by decide) (by decide) hl' HNB.out).mono ?_
      rintro e w3 ⟨N1, k1, r1, rfl, hR3, i3, hN1, e1, g3⟩
      obtain ⟨og3, bl3⟩ := hI1.out.asked g3
      have w1' := wrap_i64q (n := N1) (by omega)
      have H3 := hide (And.intro og3 bl3)
      have E1 := hide e1
      clear og3 bl3 e1 g3 hj0
      have hbb := hI1.out.lo
      have HLO := hide hI1.out.lo
      dsimp only
      go_wp2_with fail
      refine (numI (g := g) (c := c') (A := A') w3 1 hR3 i3 (by decide) (by decide) hl' HNB.out).mono ?_
      rintro e w4 ⟨N2, k2, r2, rfl, hR4, i4, hN2, e2, g4⟩
      have w2' := wrap_i64q (n := N2) (by omega)
      have E2 := hide e2
      have o4 := H3.out.1.box g4 (Nat.lt_succ_self _) (fun x hx hp a e e2 => by have := hI1.out.far x hx hp a e; omega)
      have b4 := H3.out.2.grown g4 H3.out.2.size (fun k e => by cases e; exact HLO.out)
      have H4 := hide (And.intro o4 b4)
      have hbo := built_opt2 (N1 : Int) (N2 : Int)
      have hone : allOne #[Value.int .i64 (N1 : Int), Value.int .i64 (N2 : Int), Value.slice none 0 0] = true := by simp [allOne, Value.oneCell']
      clear e2 o4 b4 g4 H3 hR3 i3
      dsimp only
      go_wp2_with fail
      obtain ⟨W5, hW5, r5, z5, b5⟩ := alloc_tl w4 (.cells #[.int .i64 (N1 : Int), .int .i64 (N2 : Int), .slice none 0 0] 60)
      rw [hW5]
      obtain ⟨go, hgo⟩ : ∃ x, x = w4.heap.size := ⟨_, rfl⟩
      rw [← hgo] at r5 ⊢
      have hR5 := hR4.below b5
      have H5 := hide (And.intro (H4.out.1.below b5) (H4.out.2.trans (b5.mono H4.out.2.size)))
      have hgg : g < go := by rw [hgo]; exact hR4.rd.lt
      have HG := hide (And.intro hgg (show go < W5.heap.size by omega))
      have HR5 := hide r5
      have HOW : Hid (∀ k, u5.ownBlock = some k → k < go) := hide (fun k hk => by rw [hgo]; exact (World.ownsRow.lt H4.out.1.row k hk).2)
      have HAL : Hid (∀ x ∈ l, 0 < x.d.length → ∀ a, x.a = some a → a.block < go) := hide (fun x hx hp a e => by rw [hgo]; exact (H4.out.1.ob x hx).1.blk hp e)
      clear hW5 z5 b5 hR4 H4 hgo hgg r5
      refine (numI (g := g) (c := c') (A := A') W5 1 hR5 i4 (by decide) (by decide) hl' HNB.out).mono ?_
      rintro e w6 ⟨N3, k3, r3, rfl, hR6, i6, hN3, e3, g6⟩
      have w3' := wrap_i64q (n := N3) (by omega)
      have E3 := hide e3
      have o6 := H5.out.1.box g6 (Nat.lt_succ_self _) (fun x hx hp a e e2 => by have := hI1.out.far x hx hp a e; omega)
      have b6 := H5.out.2.grown g6 H5.out.2.size (fun k e => by cases e; exact HLO.out)
      have H6 := hide (And.intro o6 b6)
      have r6 : w6.heap[go]? = some (.cells #[.int .i64 (N1 : Int), .int .i64 (N2 : Int), .slice none 0 0] 60 (0, 0)) := (g6.block go HG.out.2 (by have := HG.out.1; simp; omega)).trans HR5.out
      have HR6 := hide r6
      have HG6 : Hid (go < w6.heap.size) := hide (Nat.lt_of_lt_of_le HG.out.2 g6.size)
      have a31 := and31 (N := N3) (by omega)
      obtain ⟨S, hS⟩ : ∃ S, S = N3 % 32 := ⟨_, rfl⟩
      rw [← hS] at a31
      have HS := hide hS
      have hS32 : S < 32 := by omega
      have wm : IntKind.i64.wrap (4 * (S : Int)) = ((4 * S : Nat) : Int) := by rw [IntKind.wrap_i64]; omega
      have wm2 : wrap64 (4 * (S : Int)) = ((4 * S : Nat) : Int) := by rw [Go.IntWalk.wrap64_in _ (by omega)]; omega
      clear e3 o6 b6 g6 H5 hR5 i4 hS r6 hone
      dsimp only
      go_wp2_with fail
      first | rw [wm] | rw [wm2] | skip
      refine (takeI (g := g) (c := c') (A := A') w6 (4 * S) hR6 i6 hl' HNB.out).mono ?_
      rintro e w7 ⟨d, Ad, cd, k4, r4, rfl, hbd, hcd, hnd, had, hR7, i7, hdl, e4, g7⟩
      have o7 := H6.out.1.box g7 (Nat.lt_succ_self _) (fun x hx hp a e e2 => by have := hI1.out.far x hx hp a e; omega)
      have b7 := H6.out.2.grown g7 H6.out.2.size (fun k e => by cases e; exact HLO.out)
      have H7 := hide (And.intro o7 b7)
      have r7 : w7.heap[go]? = some (.cells #[.int .i64 (N1 : Int), .int .i64 (N2 : Int), .slice none 0 0] 60 (0, 0)) := (g7.block go HG6.out (by have := HG.out.1; simp; omega)).trans HR6.out
      have c7 := (opt_cells r7).2.2
      have f7 := frozen_of_row w7 go 2 _ _ r7
      have HR7 := hide r7
      have HD := hide (And.intro hbd (And.intro hcd (And.intro hnd (And.intro had (And.intro hdl e4)))))
      obtain ⟨nd, hnd'⟩ : ∃ n, n = d.length := ⟨_, rfl⟩
      rw [← hnd']
      have HND := hide hnd'
      clear o7 b7 r7 hbd hcd hnd had hdl e4 g7 H6 hR6 i6 wm wm2 hnd'
      dsimp only
      go_wp2_with fail
      obtain ⟨W8, hW8⟩ : ∃ W, W = w7.setCell ⟨go, 2, none⟩ (.slice Ad nd cd) := ⟨_, rfl⟩
      rw [← hW8]
      have gs8 : w7.grownBy W8 (some go) := by rw [hW8]; exact grown_set w7 go 2 _
      have r8 : W8.heap[go]? = some (.cells #[.int .i64 (N1 : Int), .int .i64 (N2 : Int), .slice Ad nd cd] 60 (0, 0)) := by rw [hW8]; exact heap_setCell_same w7 go 2 _ _ _ HR7.out
      have hgg := HG.out.1
      have hRd8 := hR7.growG gs8 (fun i e => by cases e; exact hgg)
      have og8 : OgS W8 (g + 1) 60 u5 l := H7.out.1.grown gs8 (by
        cases hv : u5.ownBlock with
        | none => exact .inl rfl
        | some k => have := HOW.out k hv; exact .inr (by simp; omega)) (fun x hx hp a e e2 => by have := HAL.out x hx hp a e; have := Option.some.inj e2; omega)
      have bl8 : Below w.heap.size w W8 := H7.out.2.grown gs8 H7.out.2.size (fun k e => by cases e; have := HLO.out; omega)
      have H8 := hide (And.intro og8 (And.intro bl8 r8))
      have HRD8 := hide hRd8
      have hsp : spanQ Tryz.prog 60 W8 (.pointer (some ⟨go, 0, none⟩)) = some #[.int .i64 (N1 : Int), .int .i64 (N2 : Int), .slice Ad nd cd] := by rw [spanQ_ptr, rs_optG, r8]; rfl
      have HSP := hide hsp
      have HBY : Hid (Byt W8 W8.heap.size Ad d) := hide ((HD.out.1.grown gs8 (fun hp a e => by have h1 := HD.out.2.2.2.1 a e; have h2 := HG6.out; simp; omega)).more gs8.size)
      have HI7 := hide i7
      clear hW8 gs8 r8 hgg og8 bl8 hRd8 hR7 c7 f7 HR7 H7 hsp i7
      refine (err_any W8 g A' b.length c' k4 r4 HRD8.out.rd).mono ?_
      rintro e w9 ⟨rfl, rfl⟩
      dsimp only
      by_cases hr4 : r4 = 0
      · subst hr4
        have hk4 : k4 = K + 4 + 4 * S ∧ K + 4 + 4 * S ≤ b.length := by
          rcases HI7.out with ⟨-, h1, h2⟩ | ⟨h1, -⟩
          · omega
          · cases h1
        have a224 := and224 (N := N3) (by omega)
        have HK4 := hide hk4
        have q1 : N1 = atN b K 2 := E1.out (by omega)
        have q2 : N2 = atN b (K + 2) 1 := E2.out (by omega)
        have q3 : N3 = atN b (K + 3) 1 := E3.out (by omega)
        have q4 : d = (b.drop (K + 4)).take (4 * S) := HD.out.2.2.2.2.2 (by omega)
        have HQ := hide (And.intro q1 (And.intro q2 (And.intro q3 q4)))
        have hle := hI1.out.fuel
        have HRE := hide hI1.out.res
        by_cases h32 : N3 < 32
        · have hd0 : N3 / 32 = 0 := by omega
          rw [hd0] at a224
          have a224' : bits BinOp.and IntKind.i64 (N3 : Int) 224 = 0 := a224
          obtain ⟨mm, hmm, hnx⟩ := optsP_next (acc := l.map OpG.say) hlt hle (by rw [← q3, ← HS.out]; omega) (by rw [← q3]; exact h32)
          rw [← q1, ← q2, ← q3, ← HS.out, ← q4] at hnx
          rw [hnx] at HRE
          have HHM := hide hmm
          have HO2 : Hid ((W8.alloc (.cells #[.int .i64 (N1 : Int), .int .i64 (N2 : Int), .slice Ad nd cd] 60)).ownsRow (g + 1) 60 3 u5 l.length (ogsC l)) := hide (World.ownsRow.alloc H8.out.1.row _)
          have HLIT : Hid ((W8.alloc (.cells #[.int .i64 (N1 : Int), .int .i64 (N2 : Int), .slice Ad nd cd] 60)).heap[W8.heap.size]? = some (.cells #[.int .i64 (N1 : Int), .int .i64 (N2 : Int), .slice Ad nd cd] 60 (0, 0))) := hide (heap_alloc_new W8 _)
          have hlk := hI1.out.len
          have hbn := HN.out
          have HM1 : Hid (l.length + 1 ≤ maxLen) := hide (by unfold maxLen; omega)
          have HM2 : Hid ((l.length + 1) * 40 ≤ 140737488355328) := hide (by omega)
          have HM3 : Hid (g + 1 ≤ (W8.alloc (.cells #[.int .i64 (N1 : Int), .int .i64 (N2 : Int), .slice Ad nd cd] 60)).heap.size) := hide (by have := HRD8.out.rd.lt; simp; omega)
          have HM4 : Hid ((W8.alloc (.cells #[.int .i64 (N1 : Int), .int .i64 (N2 : Int), .slice Ad nd cd] 60)).heap.size = W8.heap.size + 1) := hide (by simp)
          clear a224 hd0 hk4 q1 q2 q3 q4 hle hmm hnx hlk hbn
          go_wp2_with (first
            | (refine wpList_spanG rfl 60 (.tmp 6) rfl _ rfl HSP.out ?_)
            | (refine wpList_append_lies _ (by rfl) (.tmp 38) (.tmp 40) 36 (by rfl) (g + 1) 60 i0 _ 3 40 Tryz.underlying36 hi hz0 hz1 hz2 rfl (by omega) u5 l.length (ogsC l) (by rfl) HO2.out ⟨W8.heap.size, 0, none⟩ 1 1 [.int .i64 (N1 : Int), .int .i64 (N2 : Int), .slice Ad nd cd] (by rfl) (by rfl) (World.news_of_block (cs := #[.int .i64 (N1 : Int), .int .i64 (N2 : Int), .slice Ad nd cd]) (t := 60) (fr := (0, 0)) HLIT.out) (by simp [Value.oneCell']) (by omega) HM1.out HM2.out HM3.out (W8.heap.size + 1) HM4.out ?_; intro gg cap w9 hown9 hg9 hat9 hlt9; have HO9 := hide hown9; have HG9 := hide hg9; have HA9 := hide hat9; clear hown9 hg9 hat9 hlt9)
            | fail)
          have hgw : W8.grownBy w9 u5.ownBlock := (World.grownBy_alloc W8 (.cells #[.int .i64 (N1 : Int), .int .i64 (N2 : Int), .slice Ad nd cd] 60) _).trans HG9.out
          have hlo5 : ∀ i, u5.ownBlock = some i → g < i := fun i e => by have := (World.ownsRow.lt H8.out.1.row i e).1; omega
          have hrd9 := HRD8.out.growG hgw hlo5
          have hka := HK4.out.1
          have hkb := HK4.out.2
          have hgo := HG.out.1
          have hg6 := HG6.out
          have hmm := HHM.out
          have hfu := hI1.out.fuel
          have hle := hI1.out.len
          have hog9 : OgS w9 (g + 1) 60 (.slice (some ⟨gg, 0, none⟩) (l.length + 1) cap) (l ++ [⟨N1, N2, Ad, cd, d⟩]) := H8.out.1.snoc hgw (by unfold ogC; rw [← HND.out]; exact HO9.out) (fun k e => by
            cases e
            rcases HA9.out with h1 | h1
            · exact .inl h1
            · exact .inr (by show W8.heap.size ≤ gg; omega)) ⟨HBY.out, HD.out.2.2.1, HD.out.2.1⟩ (fun hp a e e2 => by have h1 := HD.out.2.2.2.1 a e; have h2 := HOW.out _ e2; omega)
          have hP : PoI w w9 g A' c' b R (.slice (some ⟨gg, 0, none⟩) (l.length + 1) cap) k4 mm (l ++ [⟨N1, N2, Ad, cd, d⟩]) := by
            refine ⟨hrd9, hog9, fun x hx hp a e => ?_, by rw [List.length_append]; simp; omega, by omega, ?_, H8.out.2.1.grown hgw H8.out.2.1.size (fun k e => by have := hlo5 k e; have := HLO.out; omega), HLO.out⟩
            · rcases List.mem_append.1 hx with h1 | h1
              · exact hI1.out.far x h1 hp a e
              · rw [List.mem_singleton] at h1; subst h1
                have := HD.out.2.2.2.1 a e; omega
            · rw [hka, List.map_append]; exact HRE.out
          have hk9 := kOfG_rd hrd9.rd
          exact ⟨⟨_, _, _, hide hP⟩, by rw [hk9, HKOF.out]; omega⟩
        · have hd1 : 32 * (N3 / 32) ≠ 0 := by omega
          have a224' : (bits BinOp.and IntKind.i64 (N3 : Int) 224 != 0) = true := by rw [a224]; simp; omega
          have hR11 := optsP_form (acc := l.map OpG.say) hlt hle (by rw [← q3, ← HS.out]; omega) (by rw [← q3]; omega)
          have HE : Hid (R = ([], 11)) := hide (HRE.out.symm.trans hR11)
          clear a224 hd1 hR11 hk4 q1 q2 q3 q4 hle
          go_wp2
          go_ret2
          rw [HE.out]
          exact ⟨none, 0, [], 0, rfl, rfl, by decide, rfl, Nat.le_refl _, fun h => by simp at h, OgB.nil _ _, (fun a e => by cases e), (fun x hx => by simp at hx), H8.out.2.1⟩
      · have hr10 : r4 = 10 ∧ b.length < K + 4 + 4 * S := by
          rcases HI7.out with ⟨h1, -⟩ | ⟨h1, h2⟩
          · exact absurd h1 hr4
          · exact ⟨h1, by omega⟩
        have hsh : b.length < K + 4 + 4 * (atN b (K + 3) 1 % 32) := by
          rcases Nat.lt_or_ge b.length (K + 4) with h1 | h1
          · omega
          · have q3 : N3 = atN b (K + 3) 1 := E3.out (by omega)
            rw [← q3, ← HS.out]; exact hr10.2
        have hR10 := optsP_short (acc := l.map OpG.say) hlt hI1.out.fuel hsh
        have HE : Hid (R = ([], 10)) := hide (hI1.out.res.symm.trans hR10)
        obtain ⟨rfl, -⟩ := hr10
        clear hsh hR10 hr4
        go_wp2
        go_ret2
        rw [HE.out]
        exact ⟨none, 0, [], 0, rfl, rfl, by decide, rfl, Nat.le_refl _, fun h => by simp at h, OgB.nil _ _, (fun a e => by cases e), (fun x hx => by simp at hx), H8.out.2.1⟩
    · have hng : ¬ ((b.length : Int) - (K : Int) > 0) := by omega
      obtain ⟨Av, cv, hv, hvc, hvs⟩ := hI1.out.og.rd
      have HL6 : Hid (l.length ≤ 65536) := hide (by have := hI1.out.len; have := HN.out; omega)
      have hlo := hI1.out.lo
      have HFA : Hid ((∀ a, Av = some a → w.heap.size ≤ a.block) ∧ ∀ x ∈ l, 0 < x.d.length → ∀ a, x.a = some a → w.heap.size ≤ a.block) := hide ⟨fun a e => by
        rcases hI1.out.og.row.2 with ⟨h1, -⟩ | ⟨gg, cap, cur, h1, h2, -⟩
        · rw [hv, e] at h1; cases h1
        · rw [hv, e] at h1; cases h1; show w.heap.size ≤ gg; omega, fun x hx hp a e => by have := hI1.out.far x hx hp a e; omega⟩
      have HV := hide (And.intro hvs (And.intro hvc (And.intro hI1.out.og.ob hI1.out.bel)))
      have HE : Hid (R = (l.map OpG.say, 0)) := hide (hI1.out.res.symm.trans (optsP_end (by omega)))
      subst hv
      clear hvs hvc hlt hlo
      go_wp2
      go_ret2
      rw [HE.out]
      exact ⟨Av, cv, l, l.length, rfl, rfl, HL6.out, rfl, HV.out.2.1, HV.out.1, HV.out.2.2.1, HFA.out.1, HFA.out.2, HV.out.2.2.2⟩
end Go.Proofs.YtihakjcccbionaaGreatDoor

end
section
/-
  The walk of geneve.Parse.
-/
namespace Go.Proofs.YtihakjcccbionaaGreatDoor
open Go.RowKit
set_option maxRecDepth 100000
set_option linter.unusedVariables false
set_option linter.unusedSimpArgs false
attribute [local go_sem ↓] exec_span exec_put exec_build heap_alloc_new heap_old
attribute [local go_sem] spanQ_ptr spanC_some heap_of_drew heap_of_drewN putAt_ptr putOk_ptr oldOk_some World.setRow_alloc_new rs_tunG rs_rtunG rs_optG rs_roptG

theorem built_tun0 : Tryz.prog.built 38 [] = some (tunA false 0 0 none 0 0 none 0 0) := by kernel_rfl
theorem built_tun5 (o : Bool) (p v : Int) (A : Option Addr) (n c : Nat) (I : Option Addr) (m k : Nat) : Tryz.prog.built 38 [(0, .bool o), (1, .int .i64 p), (2, .int .i64 v), (3, .slice A n c), (4, .slice I m k)] = some (tunA o p v A n c I m k) := by kernel_rfl
theorem tuG_zero (w : World) : TuG w (tunA false 0 0 none 0 0 none 0 0) zT := ⟨none, 0, [], none, 0, rfl, rfl, fun h => by simp at h, OgB.nil _ _, Nat.le_refl _, Byt.nil _ _ _, fun _ => rfl, Nat.le_refl _⟩
theorem RdG.grown {w w' : World} {B : Nat} {A : Option Addr} {l : List OpG} {g : Nat} (h : RdG w B A l) (hg : w.grownBy w' (some g)) (hne : ∀ a, A = some a → a.block ≠ g) : RdG w' B A l := fun h0 => by
  obtain ⟨b, off, e, hlt, hc⟩ := h h0
  have hb : some b ≠ some g := fun e2 => hne _ e (Option.some.inj e2)
  exact ⟨b, off, e, hlt, fun i hi => ⟨hg.cell (hc i hi).1 hb, hg.cell (hc i hi).2.1 hb, hg.cell (hc i hi).2.2 hb⟩⟩
theorem OgB.grown {w w' : World} {B : Nat} {l : List OpG} {g : Nat} (h : OgB w B l) (hg : w.grownBy w' (some g)) (hne : ∀ x ∈ l, 0 < x.d.length → ∀ a, x.a = some a → a.block ≠ g) : OgB w' B l := fun x hx =>
  ⟨(h x hx).1.grown hg (fun hp a e e2 => hne x hx hp a e (Option.some.inj e2).symm), (h x hx).2⟩
/-- what Parse hands back. -/
def PaR (w : World) (R : TuD × Int) (e : Ending) (w' : World) : Prop := ∃ Y, e = .returned (.tuple #[.agg Y, .int .i64 R.2]) ∧ TuG w' Y R.1 ∧ Below w.heap.size w w'
theorem paR_err {w w' : World} {R : TuD × Int} {E : Int} {Z : Array Value} (hZ : Z = tunA false 0 0 none 0 0 none 0 0) (hR : R = (zT, E)) (hb : Below w.heap.size w w') : PaR w R (.returned (.tuple #[.agg Z, .int .i64 E])) w' := by
  subst hR hZ; exact ⟨_, rfl, tuG_zero _, hb⟩
/-- a tunnel in memory whose parts all lie at or behind block B. -/
def TuF (B : Nat) (w : World) (X : Array Value) (T : TuD) : Prop :=
  ∃ A c l I k, X = tunA T.o T.p T.v A l.length c I T.D.length k ∧ TuP w T A c l I k ∧ (∀ a, A = some a → B ≤ a.block) ∧ (∀ x ∈ l, 0 < x.d.length → ∀ a, x.a = some a → B ≤ a.block) ∧ (0 < T.D.length → ∀ a, I = some a → B ≤ a.block)
theorem TuF.tu {B : Nat} {w : World} {X : Array Value} {T : TuD} (h : TuF B w X T) : TuG w X T := by
  obtain ⟨A, c, l, I, k, e, hp, -⟩ := h
  exact ⟨A, c, l, I, k, e, hp⟩
theorem TuF.below {B : Nat} {w w' : World} {X : Array Value} {T : TuD} (h : TuF B w X T) (hb : Below w.heap.size w w') : TuF B w' X T := by
  obtain ⟨A, c, l, I, k, e, hp, h1, h2, h3⟩ := h
  exact ⟨A, c, l, I, k, e, hp.below hb, h1, h2, h3⟩
/-- a store into a block ahead of all that. -/
theorem TuF.grown {B g : Nat} {w w' : World} {X : Array Value} {T : TuD} (h : TuF B w X T) (hg : w.grownBy w' (some g)) (hlt : g < B) : TuF B w' X T := by
  obtain ⟨A, c, l, I, k, e, hp, h1, h2, h3⟩ := h
  exact ⟨A, c, l, I, k, e, ⟨hp.say, (hp.rd.grown hg (fun a e => by have := h1 a e; omega)).more hg.size, (hp.ob.grown hg (fun x hx hl a e => by have := h2 x hx hl a e; omega)).more hg.size, hp.le, (hp.i.grown hg (fun hl a e e2 => by have := h3 hl a e; have := Option.some.inj e2; omega)).more hg.size, hp.inn, hp.ik⟩, h1, h2, h3⟩
/-- what Parse hands back, all of it new. -/
def PaF (w : World) (R : TuD × Int) (e : Ending) (w' : World) : Prop := ∃ Y, e = .returned (.tuple #[.agg Y, .int .i64 R.2]) ∧ TuF w.heap.size w' Y R.1 ∧ Below w.heap.size w w'
theorem tuF_zero (B : Nat) (w : World) : TuF B w (tunA false 0 0 none 0 0 none 0 0) zT := ⟨none, 0, [], none, 0, rfl, ⟨rfl, fun h => by simp at h, OgB.nil _ _, Nat.le_refl _, Byt.nil _ _ _, fun _ => rfl, Nat.le_refl _⟩, (fun a e => by cases e), (fun x hx => by simp at hx), (fun h => by simp [zT] at h)⟩
theorem paF_err {w w' : World} {R : TuD × Int} {E : Int} {Z : Array Value} (hZ : Z = tunA false 0 0 none 0 0 none 0 0) (hR : R = (zT, E)) (hb : Below w.heap.size w w') : PaF w R (.returned (.tuple #[.agg Z, .int .i64 E])) w' := by
  subst hR hZ; exact ⟨_, rfl, tuF_zero _ _, hb⟩
theorem PaF.par {w w' : World} {R : TuD × Int} {e : Ending} (h : PaF w R e w') : PaR w R e w' := by
  obtain ⟨Y, h1, h2, h3⟩ := h
  exact ⟨Y, h1, h2.tu, h3⟩
set_option maxHeartbeats 8000000 in
theorem genParseF_any (w : World) (A : Option Addr) (c : Nat) (b : List UInt8) (hb : Byt w w.heap.size A b) (hn : b.length ≤ 140737488355328) :
    Calls Tryz.prog 22 #[.slice A b.length c] w (PaF w (parD b)) := by
  obtain ⟨R, hR⟩ : ∃ R, R = parD b := ⟨_, rfl⟩
  rw [← hR]
  have HR := hide hR
  have HN := hide hn
  obtain ⟨Z, hZ⟩ : ∃ Z, Z = tunA false 0 0 none 0 0 none 0 0 := ⟨_, rfl⟩
  have hbn := built_tun0
  rw [← hZ] at hbn
  have hZs : Z.size = 5 := by rw [hZ]; rfl
  have hZo : allOne Z = true := by rw [hZ]; exact tunA_one _ _ _ _ _ _ _ _ _
  have HZE := hide hZ
  obtain ⟨W, hW, r0, z0, b0⟩ := alloc_tl w (.cells Z 38)
  have KN := hide (newS W w.heap.size A b c (by omega) (hb.below b0) b0.size)
  have HK := hide (fun (w1 : World) (hb1 : Below W.heap.size W w1) => ((hb1.block w.heap.size (by omega)).trans r0 : w1.heap[w.heap.size]? = some (.cells Z 38 (0, 0))))
  have HB := hide b0
  have HZ := hide z0
  rw [hZ] at hW
  have HW := hide hW
  clear hR hn hb hZ hW r0 z0 b0
  go_enter Tryz.func22, Tryz.ntmps22
  go_upto_region 1 with (fail)
  change Code.wp _ _ _ _ (w.alloc (.cells (tunA false 0 0 none 0 0 none 0 0) 38))
  rw [HW.out]
  go_wp2_with fail
  refine KN.out.mono ?_
  rintro e w1 ⟨g, A', c', rfl, hRd, hl', hat, hg, hb1⟩
  have HGW := hide hg
  have HLN : Hid (b.length ≤ 140737488420864) := hide (by have := HN.out; omega)
  have B1 := hide hb1
  have i0 : RdI b 0 0 0 := .inl ⟨rfl, rfl, Nat.zero_le _⟩
  clear KN hb1 hat hg
  dsimp only
  go_wp2_with fail
  refine (numI (g := g) (c := c') (A := A') w1 1 hRd i0 (by decide) (by decide) hl' HLN.out).mono ?_
  rintro e w2 ⟨N1, k1, r1, rfl, hR2, i1, hN1, e1, g2⟩
  have B2 : Hid (Below W.heap.size W w2) := hide (B1.out.grown g2 B1.out.size (fun k e => by cases e; exact HGW.out))
  have E1 := hide e1
  have v1 := wrap_i64q (n := N1) (by omega)
  clear hRd i0 e1 g2
  dsimp only
  go_wp2_with fail
  refine (numI (g := g) (c := c') (A := A') w2 1 hR2 i1 (by decide) (by decide) hl' HLN.out).mono ?_
  rintro e w3 ⟨N2, k2, r2, rfl, hR3, i2, hN2, e2, g3⟩
  have B3 : Hid (Below W.heap.size W w3) := hide (B2.out.grown g3 B2.out.size (fun k e => by cases e; exact HGW.out))
  have E2 := hide e2
  have v2 := wrap_i64q (n := N2) (by omega)
  clear hR2 i1 e2 g3
  dsimp only
  go_wp2_with fail
  refine (numI (g := g) (c := c') (A := A') w3 2 hR3 i2 (by decide) (by decide) hl' HLN.out).mono ?_
  rintro e w4 ⟨N3, k3, r3, rfl, hR4, i3, hN3, e3, g4⟩
  have B4 : Hid (Below W.heap.size W w4) := hide (B3.out.grown g4 B3.out.size (fun k e => by cases e; exact HGW.out))
  have E3 := hide e3
  have v3 := wrap_i64q (n := N3) (by omega)
  clear hR3 i2 e3 g4
  dsimp only
  go_wp2_with fail
  refine (numI (g := g) (c := c') (A := A') w4 3 hR4 i3 (by decide) (by decide) hl' HLN.out).mono ?_
  rintro e w5 ⟨N4, k4, r4, rfl, hR5, i4, hN4, e4, g5⟩
  have B5 : Hid (Below W.heap.size W w5) := hide (B4.out.grown g5 B4.out.size (fun k e => by cases e; exact HGW.out))
  have E4 := hide e4
  have v4 := wrap_i64q (n := N4) (by omega)
  clear hR4 i3 e4 g5
  dsimp only
  go_wp2_with fail
  refine (numI (g := g) (c := c') (A := A') w5 1 hR5 i4 (by decide) (by decide) hl' HLN.out).mono ?_
  rintro e w6 ⟨N5, k5, r5, rfl, hR6, i5, hN5, e5, g6⟩
  have B6 : Hid (Below W.heap.size W w6) := hide (B5.out.grown g6 B5.out.size (fun k e => by cases e; exact HGW.out))
  have E5 := hide e5
  have v5 := wrap_i64q (n := N5) (by omega)
  have HRD := hide hR6
  have HI5 := hide i5
  clear hR5 i4 e5 g6 hR6 i5
  have rz6 := HK.out w6 B6.out
  have KE := hide (err_any w6 g A' b.length c' k5 r5 HRD.out.rd)
  dsimp only
  go_wp2_with fail
  refine KE.out.mono ?_
  rintro e w7 ⟨rfl, rfl⟩
  dsimp only
  by_cases hr5 : r5 = 0
  · subst hr5
    have h8 : k5 = 8 ∧ 8 ≤ b.length := by
      rcases HI5.out with ⟨-, h1, h2⟩ | ⟨h1, -⟩
      · exact ⟨by omega, by omega⟩
      · cases h1
    obtain ⟨rfl, h8l⟩ := h8
    have q1 : N1 = atN b 0 1 := E1.out (by omega)
    have q2 : N2 = atN b 1 1 := E2.out (by omega)
    have q3 : N3 = atN b 2 2 := E3.out (by omega)
    have q4 : N4 = atN b 4 3 := E4.out (by omega)
    have q5 : N5 = atN b 7 1 := E5.out (by omega)
    have hRR := HR.out
    unfold parD at hRR
    rw [if_neg (by omega), ← q1, ← q2, ← q3, ← q4, ← q5] at hRR
    have HRR := hide hRR
    have H8 := hide h8l
    clear hRR q1 q2 q3 q4 q5 h8l
    by_cases h64 : 64 ≤ N1
    · have f1 : ((N1 : Int) / 64 != 0) = true := by simp; omega
      have HE := hide (show R = (zT, 13) by rw [HRR.out, if_pos h64])
      clear h64
      go_wp2_with fail
      refine bodyPost_ret (results_cell_tmp (fn := Tryz.f22) Tryz.results22 _ _ w.heap.size 38 Z (0, 0) _ rfl (setRow_heap w6 w.heap.size Z Z _ _ rz6) Tryz.underlying38 rfl (by rw [hZs]; exact info_tunG)) rfl ?_
      exact paF_err HZE.out HE.out (below_setRow (HB.out.trans (B6.out.mono HB.out.size)) (Nat.le_refl _) _)
    · have f1 : ((N1 : Int) / 64 != 0) = false := by
        have : (N1 : Int) / 64 = 0 := by omega
        rw [this]; rfl
      have a63 := and63 (N := N2) (by omega)
      by_cases hbad : N2 % 64 ≠ 0 ∨ N5 ≠ 0
      · have HE := hide (show R = (zT, 11) by rw [HRR.out, if_neg h64, if_pos hbad])
        have hcase : (((N2 % 64 : Nat) : Int) != 0) = true ∨ ((((N2 % 64 : Nat) : Int) != 0) = false ∧ ((N5 : Int) != 0) = true) := by
          rcases Nat.eq_zero_or_pos (N2 % 64) with h | h
          · rw [h]; exact .inr ⟨rfl, by rcases hbad with h2 | h2 <;> simp <;> omega⟩
          · exact .inl (by simp; omega)
        obtain ⟨p64, hp64⟩ : ∃ p, p = ((N2 % 64 : Nat) : Int) := ⟨_, rfl⟩
        rw [← hp64] at a63 hcase
        clear h64 hbad hp64
        rcases hcase with f2 | ⟨f2, f3⟩
        all_goals (
          go_wp2_with fail
          refine bodyPost_ret (results_cell_tmp (fn := Tryz.f22) Tryz.results22 _ _ w.heap.size 38 Z (0, 0) _ rfl (setRow_heap w6 w.heap.size Z Z _ _ rz6) Tryz.underlying38 rfl (by rw [hZs]; exact info_tunG)) rfl ?_
          exact paF_err HZE.out HE.out (below_setRow (HB.out.trans (B6.out.mono HB.out.size)) (Nat.le_refl _) _))
      · have hz2 : N2 % 64 = 0 ∧ N5 = 0 := by omega
        rw [hz2.1] at a63
        have a63' : bits BinOp.and IntKind.i64 (N2 : Int) 63 = 0 := a63
        obtain ⟨hz2a, rfl⟩ := hz2
        have b63 := and63 (N := N1) (by omega)
        rw [Nat.mod_eq_of_lt (by omega)] at b63
        have wm : IntKind.i64.wrap (4 * (N1 : Int)) = ((4 * N1 : Nat) : Int) := by rw [IntKind.wrap_i64]; omega
        have hRR := HRR.out
        rw [if_neg h64, if_neg hbad] at hRR
        have HRR2 := hide hRR
        have H64 : Hid (N1 < 64) := hide (by omega)
        have HI8 : Hid (RdI b 8 8 0) := hide (by have := HI5.out; simpa using this)
        clear hRR hbad h64 a63 HRR HI5 hz2a
        go_wp2_with fail
        first | rw [wm] | skip
        refine (takeI (g := g) (c := c') (A := A') w6 (4 * N1) HRD.out HI8.out hl' HLN.out).mono ?_
        rintro e w8 ⟨d, Ad, cd, k7, r7, rfl, hbd, hcd, hnd, had, hR7, i7, hdl, e7, g7⟩
        have B8 : Hid (Below W.heap.size W w8) := hide (B6.out.grown g7 B6.out.size (fun k e => by cases e; exact HGW.out))
        have rz8 := HK.out w8 B8.out
        have HRD8 := hide hR7
        have HI7 := hide i7
        have HD := hide (And.intro hbd (And.intro hcd (And.intro hdl e7)))
        have KE8 := hide (err_any w8 g A' b.length c' k7 r7 HRD8.out.rd)
        obtain ⟨nd, hnd'⟩ : ∃ n, n = d.length := ⟨_, rfl⟩
        rw [← hnd']
        have HND := hide hnd'
        clear hbd hcd hnd had hR7 i7 hdl e7 g7 rz6 KE wm hnd' HRD HI8 a63' b63
        dsimp only
        go_wp2_with fail
        refine KE8.out.mono ?_
        rintro e w9 ⟨rfl, rfl⟩
        dsimp only
        by_cases hr7 : r7 = 0
        · subst hr7
          have hk7 : k7 = 8 + 4 * N1 ∧ 8 + 4 * N1 ≤ b.length := by
            rcases HI7.out with ⟨-, h1, h2⟩ | ⟨h1, -⟩
            · exact ⟨h1, h2⟩
            · cases h1
          have hd := HD.out.2.2.2 hk7.2
          have hdl : d.length = 4 * N1 := by rw [hd]; simp; omega
          have hRR := HRR2.out
          rw [if_neg (by omega), ← hd, ← hdl] at hRR
          obtain ⟨OP, hOP⟩ : ∃ r, r = optsP d d.length 0 [] := ⟨_, rfl⟩
          have KP := parseOpts_any w8 Ad cd d HD.out.1 (by have := H64.out; omega)
          rw [← hOP] at hRR KP
          rw [← HND.out] at KP
          have HRR3 := hide hRR
          have HK7 := hide hk7
          have HDL := hide hdl
          have KP := hide KP
          clear hOP hd hdl hRR hk7
          go_wp2_with fail
          refine KP.out.mono ?_
          rintro e w10 ⟨Al, cl, l, m, rfl, hml, hm6, hsay, hmc, hrd, hob, hfa, hfx, bl10⟩
          have B10 : Hid (Below W.heap.size W w10) := hide (B8.out.trans (bl10.mono B8.out.size))
          have rz10 := HK.out w10 B10.out
          have HRD10 := hide (HRD8.out.below bl10)
          have HL := hide (And.intro hml (And.intro hm6 (And.intro hsay (And.intro hmc (And.intro hrd (And.intro hob (And.intro hfa hfx)))))))
          obtain ⟨OL, OE⟩ := OP
          have H8S : Hid (g < w8.heap.size ∧ w.heap.size < w8.heap.size) := hide ⟨HRD8.out.rd.lt, (Array.getElem?_eq_some_iff.1 rz8).1⟩
          clear hml hm6 hsay hmc hrd hob hfa hfx bl10 rz8 KE8 HRD8 KP
          dsimp only
          by_cases hoe : OE = 0
          · subst hoe
            have hRR := HRR3.out
            rw [if_neg (by simp)] at hRR
            have KC := critical_any w10 Al cl l HL.out.2.2.2.2.1 (by have h1 := HL.out.1; have h2 := HL.out.2.1; omega)
            rw [← HL.out.1, critG_say, HL.out.2.2.1] at KC
            have hf : (bits BinOp.and IntKind.i64 (N2 : Int) 64 != 0) = decide (N2 / 64 % 2 = 1) := by
              rw [and64 (by omega)]
              rcases Nat.mod_two_eq_zero_or_one (N2 / 64) with h | h <;> rw [h] <;> rfl
            simp only at KC hRR
            obtain ⟨cr, hcr⟩ : ∃ x, x = critD OL := ⟨_, rfl⟩
            obtain ⟨fb, hfb⟩ : ∃ x, x = decide (N2 / 64 % 2 = 1) := ⟨_, rfl⟩
            rw [← hcr] at KC hRR
            rw [← hfb] at hf hRR
            have KC := hide KC
            have HR4 := hide hRR
            obtain ⟨x64, hx64⟩ : ∃ x, x = bits BinOp.and IntKind.i64 (N2 : Int) 64 := ⟨_, rfl⟩
            have hx64' := hx64.symm
            rw [hx64'] at hf
            clear hRR hcr hfb hx64
            go_wp2_with fail
            refine KC.out.mono ?_
            rintro e w11 ⟨rfl, b11⟩
            have B11 : Hid (Below W.heap.size W w11) := hide (B10.out.trans (b11.mono B10.out.size))
            have rz11 := HK.out w11 B11.out
            have HRD11 := hide (HRD10.out.below b11)
            have HB11 := hide b11
            clear b11 rz10 KC
            dsimp only
            by_cases hcf : cr = fb
            · subst hcf
              have hRR := HR4.out
              rw [if_neg (by simp)] at hRR
              have hdec : (bits BinOp.and IntKind.i64 (N2 : Int) 128 != 0) = decide (128 ≤ N2) := by
                rw [and128 (by omega)]
                rcases Nat.lt_or_ge N2 128 with h | h
                · rw [Nat.div_eq_of_lt h, decide_eq_false (by omega)]; rfl
                · rw [show N2 / 128 = 1 by omega, decide_eq_true h]; rfl
              obtain ⟨oo, hoo⟩ : ∃ x, x = decide (128 ≤ N2) := ⟨_, rfl⟩
              rw [← hoo] at hdec hRR
              have HR5 := hide hRR
              obtain ⟨LE, hLE⟩ : ∃ n, n = b.length - k7 := ⟨_, rfl⟩
              have hLEi : (b.length : Int) - (k7 : Int) = (LE : Int) := by have := HRD11.out.le; omega
              have HLE := hide hLE
              clear hRR hoo hLE
              rcases Bool.eq_false_or_eq_true cr with rfl | rfl
              all_goals (
                go_wp2_with fail
                refine (left_any w11 g A' b.length c' k7 0 HRD11.out.rd HLN.out HRD11.out.le).mono ?_
                rintro e w12 ⟨rfl, q, rfl⟩
                obtain ⟨W12, hW12⟩ : ∃ W, W = w11.drewN q := ⟨_, rfl⟩
                have bl12 : Below w11.heap.size w11 W12 := by rw [hW12]; exact below_drewN (Below.refl _ _) q
                rw [← hW12, hLEi]
                have B12 : Hid (Below W.heap.size W W12) := hide (B11.out.trans (bl12.mono B11.out.size))
                have HRD12 := hide (HRD11.out.below bl12)
                have HB12 := hide (HB11.out.trans (bl12.mono HB11.out.size))
                have hi7 : RdI b (8 + 4 * N1) k7 0 := HI7.out
                clear bl12 hW12 rz11
                dsimp only
                go_wp2_with fail
                refine (takeI (g := g) (c := c') (A := A') W12 LE HRD12.out hi7 hl' HLN.out).mono ?_
                rintro e w13 ⟨D, AD, cD, k9, r9, rfl, hbD, hcD, hnD, haD, hR9, i9, hDl, e9, g9⟩
                have B13 : Hid (Below W.heap.size W w13) := hide (B12.out.grown g9 B12.out.size (fun k e => by cases e; exact HGW.out))
                have rz13 := HK.out w13 B13.out
                have hDD : D = b.drop (8 + 4 * N1) := by
                  have h1 := HLE.out
                  have h2 := HK7.out
                  have h3 := e9 (by omega)
                  rw [h3, List.take_of_length_le (by rw [List.length_drop]; omega)]
                have hgl : RdG w13 w13.heap.size Al l ∧ OgB w13 w13.heap.size l :=
                  ⟨(((HL.out.2.2.2.2.1.below HB12.out).grown g9 (fun a e => by have := HL.out.2.2.2.2.2.2.1 a e; have := H8S.out; omega)).more (Nat.le_trans HB12.out.size g9.size)),
                   (((HL.out.2.2.2.2.2.1.below HB12.out).grown g9 (fun x hx hp a e => by have := HL.out.2.2.2.2.2.2.2 x hx hp a e; have := H8S.out; omega)).more (Nat.le_trans HB12.out.size g9.size))⟩
                obtain ⟨nD, hnD'⟩ : ∃ n, n = D.length := ⟨_, rfl⟩
                rw [← hnD']
                obtain ⟨Y, hY⟩ : ∃ Y, Y = tunA oo (N3 : Int) (N4 : Int) Al m cl AD nD cD := ⟨_, rfl⟩
                have hbY := built_tun5 oo (N3 : Int) (N4 : Int) Al m cl AD nD cD
                rw [← hY] at hbY
                have hYs : Y.size = 5 := by rw [hY]; rfl
                have hYo : allOne Y = true := by rw [hY]; exact tunA_one _ _ _ _ _ _ _ _ _
                have hwW : w.heap.size < W12.heap.size := by have h1 := H8S.out; have h2 := B12.out.size; have h3 := HZ.out; omega
                have HF : Hid (PaF w R (.returned (.tuple #[.agg Y, .int .i64 0])) (w13.setRow w.heap.size Y)) := hide (by
                  have gs := grown_rowT w13 w.heap.size Y
                  rw [HR5.out, show b.drop (8 + d.length) = D by rw [HDL.out]; exact hDD.symm]
                  have hb12 := B12.out.size
                  have hw0 := HZ.out
                  have ho8 := H8S.out
                  refine ⟨Y, rfl, ⟨Al, cl, l, AD, cD, by rw [hY, hnD', ← HL.out.1], ⟨HL.out.2.2.1, (hgl.1.grown gs (fun a e => ?_)).more gs.size, (hgl.2.grown gs (fun x hx hp a e => ?_)).more gs.size, by rw [← HL.out.1]; exact HL.out.2.2.2.1, ?_, hnD, ?_⟩, fun a e => ?_, fun x hx hp a e => ?_, fun hp a e => ?_⟩, below_setRow (HB.out.trans (B13.out.mono HB.out.size)) (Nat.le_refl _) _⟩
                  · have := HL.out.2.2.2.2.2.2.1 a e; have := H8S.out; omega
                  · have := HL.out.2.2.2.2.2.2.2 x hx hp a e; have := H8S.out; omega
                  · have h5 : Byt (w13.setRow w.heap.size Y) w13.heap.size AD D := hbD.grown gs (fun hp a e e2 => by have := haD a e; have := Option.some.inj e2; omega)
                    exact h5.more gs.size
                  · exact hcD
                  · have := HL.out.2.2.2.2.2.2.1 a e; omega
                  · have := HL.out.2.2.2.2.2.2.2 x hx hp a e; omega
                  · have := haD a e; omega)
                clear hwW hDD hgl hbD hcD hnD haD hR9 i9 hDl e9 g9 hnD' hY hi7
                dsimp only
                go_wp2_with fail
                refine bodyPost_ret (results_cell_tmp (fn := Tryz.f22) Tryz.results22 _ _ w.heap.size 38 Y (0, 0) _ rfl (setRow_heap w13 w.heap.size Z Y _ _ rz13) Tryz.underlying38 rfl (by rw [hYs]; exact info_tunG)) rfl ?_
                exact HF.out)
            · have HE := hide (show R = (zT, 11) by rw [HR4.out, if_pos (by simpa using hcf)])
              have hcc : (cr = true ∧ fb = false) ∨ (cr = false ∧ fb = true) := by cases cr <;> cases fb <;> simp at hcf ⊢
              clear hcf HR4
              rcases hcc with ⟨rfl, rfl⟩ | ⟨rfl, rfl⟩
              all_goals (
                go_wp2_with fail
                refine bodyPost_ret (results_cell_tmp (fn := Tryz.f22) Tryz.results22 _ _ w.heap.size 38 Z (0, 0) _ rfl (setRow_heap w11 w.heap.size Z Z _ _ rz11) Tryz.underlying38 rfl (by rw [hZs]; exact info_tunG)) rfl ?_
                exact paF_err HZE.out HE.out (below_setRow (HB.out.trans (B11.out.mono HB.out.size)) (Nat.le_refl _) _))
          · have hne : (OE != 0) = true := by simpa using hoe
            have heq : (OE == 0) = false := by simpa using hoe
            have HE := hide (show R = (zT, OE) by rw [HRR3.out, if_pos hoe])
            clear hoe
            go_wp2_with fail
            refine bodyPost_ret (results_cell_tmp (fn := Tryz.f22) Tryz.results22 _ _ w.heap.size 38 Z (0, 0) _ rfl (setRow_heap w10 w.heap.size Z Z _ _ rz10) Tryz.underlying38 rfl (by rw [hZs]; exact info_tunG)) rfl ?_
            exact paF_err HZE.out HE.out (below_setRow (HB.out.trans (B10.out.mono HB.out.size)) (Nat.le_refl _) _)
        · have hr10 : r7 = 10 ∧ b.length < 8 + 4 * N1 := by
            rcases HI7.out with ⟨h1, -⟩ | ⟨h1, h2⟩
            · exact absurd h1 hr7
            · exact ⟨h1, h2⟩
          obtain ⟨rfl, hsh⟩ := hr10
          have HE := hide (show R = (zT, 10) by rw [HRR2.out, if_pos hsh])
          clear hsh hr7
          go_wp2_with fail
          refine bodyPost_ret (results_cell_tmp (fn := Tryz.f22) Tryz.results22 _ _ w.heap.size 38 Z (0, 0) _ rfl (setRow_heap w8 w.heap.size Z Z _ _ rz8) Tryz.underlying38 rfl (by rw [hZs]; exact info_tunG)) rfl ?_
          exact paF_err HZE.out HE.out (below_setRow (HB.out.trans (B8.out.mono HB.out.size)) (Nat.le_refl _) _)
  · have hr10 : r5 = 10 ∧ b.length < 8 := by
      rcases HI5.out with ⟨h1, -⟩ | ⟨h1, h2⟩
      · exact absurd h1 hr5
      · exact ⟨h1, by omega⟩
    obtain ⟨rfl, hsh⟩ := hr10
    have hE : R = (zT, 10) := by rw [HR.out]; unfold parD; rw [if_pos hsh]
    have HE := hide hE
    clear hsh hE hr5
    go_wp2_with fail
    refine KE.out.mono ?_
    rintro e w8 ⟨rfl, rfl⟩
    dsimp only
    go_wp2
    refine bodyPost_ret (results_cell_tmp (fn := Tryz.f22) Tryz.results22 _ _ w.heap.size 38 Z (0, 0) _ rfl (setRow_heap w6 w.heap.size Z Z _ _ rz6) Tryz.underlying38 rfl (by rw [hZs]; exact info_tunG)) rfl ?_
    exact paF_err HZE.out HE.out (below_setRow (HB.out.trans (B6.out.mono HB.out.size)) (Nat.le_refl _) _)
theorem genParse_any (w : World) (A : Option Addr) (c : Nat) (b : List UInt8) (hb : Byt w w.heap.size A b) (hn : b.length ≤ 140737488355328) :
    Calls Tryz.prog 22 #[.slice A b.length c] w (PaR w (parD b)) := (genParseF_any w A c b hb hn).mono fun _ _ h => h.par
end Go.Proofs.YtihakjcccbionaaGreatDoor

end
