import Derived.Test.YtdlilokmfekndaaIw
import Derived.Test.YtdlilokmfekndaaKj
import Derived.Test.YtdlilokmfekndaaMgl
import Derived.Test.YtdlilokmfekndaaGnm
import Derived.Test.YtdlilokmfekndaaMkx
import Derived.Test.YtdlilokmfekndaaMgv
import Derived.Test.YtdlilokmfekndaaKm
import Derived.Test.YtdlilokmfekndaaMpp
import Derived.Test.YtdlilokmfekndaaMgr
import Derived.Test.YtdlilokmfekndaaLent
import Derived.Deep.RegionHeld3
section
/-
  What is read of any bytes as a packet: its head, its data, what is wrong with them.
-/
namespace Go.Proofs.Ytdlilokmfekndaa
open Go.RowKit
set_option linter.unusedVariables false
set_option linter.unusedSimpArgs false

/-- the packet that bytes are, without its lists; its data. -/
def pkH (l : List UInt8) : Ip := if (l.getD 0 0).toNat / 16 = 4 then p4H l none 0 none 0 else p6H l none 0
def pkD (l : List UInt8) : List UInt8 := if (l.getD 0 0).toNat / 16 = 4 then l.drop (4 * (nmB l 0 1 % 16)) else l.drop 40
def seenE (l : List UInt8) : Int := if pkE l ≠ 0 then pkE l else segE (pkH l) (pkD l)
def seenG (l : List UInt8) : Sg := gotS (pkH l) (pkD l) none 0 none 0
theorem gotS_same (h : Ip) (D : List UInt8) (ao ad : Option Addr) (co cd : Nat) : (gotS h D ao co ad cd).a = (gotS h D none 0 none 0).a ∧ (gotS h D ao co ad cd).b = (gotS h D none 0 none 0).b ∧ (gotS h D ao co ad cd).f = (gotS h D none 0 none 0).f := by
  unfold gotS
  split <;> exact ⟨rfl, rfl, rfl⟩
/-- that it lives as long. -/
theorem PktA.ipT {w w' : World} {l : List UInt8} {X : Array Value} (h : PktA w w' l X) : ∃ H, IpV X H ∧ Gave w w' H.ad H.cd (pkD l) ∧ (pkD l).length = H.nd ∧ (∀ D, segE H D = segE (pkH l) D) ∧ (∀ D a b c d, gotS H D a b c d = gotS (pkH l) D a b c d) ∧ H.sv = (pkH l).sv ∧ H.sb = (pkH l).sb ∧ H.dv = (pkH l).dv ∧ H.db = (pkH l).db ∧ H.p = (pkH l).p ∧ H.ttl = (pkH l).ttl := by
  rcases h with ⟨h4, -, ao, co, ad, cd, V, -, g⟩ | ⟨h6, -, ad, cd, V, g⟩
  · have e1 : pkH l = p4H l none 0 none 0 := by unfold pkH; rw [if_pos h4]
    have e2 : pkD l = l.drop (4 * (nmB l 0 1 % 16)) := by unfold pkD; rw [if_pos h4]
    rw [e1, e2]
    exact ⟨_, V, g, by rw [List.length_drop]; rfl, fun _ => rfl, fun _ _ _ _ _ => rfl, rfl, rfl, rfl, rfl, rfl, rfl⟩
  · have h4 : ¬ (l.getD 0 0).toNat / 16 = 4 := by omega
    have e1 : pkH l = p6H l none 0 := by unfold pkH; rw [if_neg h4]
    have e2 : pkD l = l.drop 40 := by unfold pkD; rw [if_neg h4]
    rw [e1, e2]
    exact ⟨_, V, g, by rw [List.length_drop]; rfl, fun _ => rfl, fun _ _ _ _ _ => rfl, rfl, rfl, rfl, rfl, rfl, rfl⟩
theorem PktA.ip {w w' : World} {l : List UInt8} {X : Array Value} (h : PktA w w' l X) : ∃ H, IpV X H ∧ Gave w w' H.ad H.cd (pkD l) ∧ (pkD l).length = H.nd ∧ (∀ D, segE H D = segE (pkH l) D) ∧ (∀ D a b c d, gotS H D a b c d = gotS (pkH l) D a b c d) ∧ H.sv = (pkH l).sv ∧ H.sb = (pkH l).sb ∧ H.dv = (pkH l).dv ∧ H.db = (pkH l).db ∧ H.p = (pkH l).p := by
  rcases h with ⟨h4, -, ao, co, ad, cd, V, -, g⟩ | ⟨h6, -, ad, cd, V, g⟩
  · have e1 : pkH l = p4H l none 0 none 0 := by unfold pkH; rw [if_pos h4]
    have e2 : pkD l = l.drop (4 * (nmB l 0 1 % 16)) := by unfold pkD; rw [if_pos h4]
    rw [e1, e2]
    exact ⟨_, V, g, by rw [List.length_drop]; rfl, fun _ => rfl, fun _ _ _ _ _ => rfl, rfl, rfl, rfl, rfl, rfl⟩
  · have h4 : ¬ (l.getD 0 0).toNat / 16 = 4 := by omega
    have e1 : pkH l = p6H l none 0 := by unfold pkH; rw [if_neg h4]
    have e2 : pkD l = l.drop 40 := by unfold pkD; rw [if_neg h4]
    rw [e1, e2]
    exact ⟨_, V, g, by rw [List.length_drop]; rfl, fun _ => rfl, fun _ _ _ _ _ => rfl, rfl, rfl, rfl, rfl, rfl⟩
end Go.Proofs.Ytdlilokmfekndaa

end
section
/-
  The walk of the document's own Parse of a tunnel.
-/
namespace Go.Proofs.Ytdlilokmfekndaa
open Go.RowKit
set_option maxRecDepth 100000
set_option linter.unusedVariables false
set_option linter.unusedSimpArgs false
attribute [local go_sem ↓] exec_span exec_put exec_build heap_alloc_new heap_old heap_alloc_drew
attribute [local go_sem] spanQ_ptr spanC_some heap_of_drew heap_of_drewN putAt_ptr putOk_ptr oldOk_some World.setRow_alloc_new setRow_drew rs_tunG rs_rtunG rs_optG rs_roptG

theorem takeQ_out {l : List UInt8} {k : Nat} {er : Int} {j : Nat} (hk : k ≤ l.length) : ∃ k' d' er', takeQ l k er (j : Int) = (k', d', er') ∧ k' ≤ l.length ∧ (er = 0 → k + j ≤ l.length → k' = k + j ∧ d' = (l.drop k).take j ∧ er' = 0) ∧ (er ≠ 0 ∨ l.length < k + j → er' ≠ 0) ∧ d'.length ≤ j := by
  by_cases he : er = 0 ∧ k + j ≤ l.length
  · obtain ⟨rfl, hj⟩ := he
    refine ⟨k + j, (l.drop k).take j, 0, takeQ_got hj, hj, fun _ _ => ⟨rfl, rfl, rfl⟩, fun h => by omega, by simp; omega⟩
  · have hf : fitE er (decide (0 ≤ (j : Int))) l.length k (j : Int) ≠ 0 := fun h => by
      have := fitE_zero h
      exact he ⟨this.1, by omega⟩
    refine ⟨k, [], fitE er (decide (0 ≤ (j : Int))) l.length k (j : Int), by unfold takeQ; rw [if_neg hf], hk, fun h1 h2 => absurd ⟨h1, h2⟩ he, fun _ => hf, by simp⟩
theorem atN_at {D : List UInt8} {k : Nat} (hk : k < D.length) : atN D k 1 = (D[k]).toNat := by
  unfold atN
  rw [List.drop_eq_getElem_cons hk]
  show numS [D[k]] = _
  simp [numS]
theorem atN_pair {l : List UInt8} {k : Nat} (hk : k + 1 < l.length) : atN l k 2 = atN l k 1 * 256 + atN l (k + 1) 1 := by
  rw [atN_at (by omega), atN_at hk]
  unfold atN
  rw [List.drop_eq_getElem_cons (by omega), List.drop_eq_getElem_cons hk]
  show numS [l[k], l[k + 1]] = _
  simp [numS]
theorem atN_three {l : List UInt8} {k : Nat} (hk : k + 2 < l.length) : atN l k 3 = atN l k 1 * 65536 + atN l (k + 1) 1 * 256 + atN l (k + 2) 1 := by
  rw [atN_at (by omega), atN_at (by omega), atN_at hk]
  unfold atN
  rw [List.drop_eq_getElem_cons (by omega), List.drop_eq_getElem_cons (show k + 1 < l.length by omega), List.drop_eq_getElem_cons hk]
  show numS [l[k], l[k + 1], l[k + 2]] = _
  simp [numS]
  omega
theorem or_two {x y : Nat} (hx : x < 256) (hy : y < 256) : bits .or .i64 ((x : Int) * 256) (y : Int) = ((x * 256 + y : Nat) : Int) := by
  rw [← i64_or_join 8 (x * 256) y (by omega) (by omega) (by omega) (by omega), Int.natCast_mul]
  rfl
theorem or_mid {x y : Nat} (hx : x < 256) (hy : y < 256) : bits .or .i64 ((x : Int) * 65536) ((y : Int) * 256) = ((x * 65536 + y * 256 : Nat) : Int) := by
  rw [← i64_or_join 16 (x * 65536) (y * 256) (by omega) (by omega) (by omega) (by omega), Int.natCast_mul, Int.natCast_mul]
  rfl
theorem or_last {x y z : Nat} (hx : x < 256) (hy : y < 256) (hz : z < 256) : bits .or .i64 ((x * 65536 + y * 256 : Nat) : Int) (z : Int) = ((x * 65536 + y * 256 + z : Nat) : Int) := by
  rw [← i64_or_join 8 (x * 65536 + y * 256) z (by omega) (by omega) (by omega) (by omega)]
theorem rbuilt_tun0 : Try.prog.built 38 [] = some (tunA false 0 0 none 0 0 none 0 0) := by kernel_rfl
theorem rbuilt_tun3 (o : Bool) (p v : Int) : Try.prog.built 38 [(0, .bool o), (1, .int .i64 p), (2, .int .i64 v)] = some (tunA o p v none 0 0 none 0 0) := by kernel_rfl
theorem rbuilt_opt2 (c t : Int) : Try.prog.built 67 [(0, .int .i64 c), (1, .int .i64 t)] = some #[.int .i64 c, .int .i64 t, .slice none 0 0] := by kernel_rfl
theorem RrS.growG {g B : Nat} {A : Option Addr} {l : List UInt8} {c k : Nat} {er : Int} {w w' : World} {row : Option Nat} (h : RrS g B A l c w k er) (hg : w.grownBy w' row) (hr : ∀ i, row = some i → g < i) : RrS g B A l c w' k er :=
  ⟨h.rr.grown hg (fun e => by have := hr g e; omega), fun hl => by
    obtain ⟨b, off, e, hb, hc⟩ := h.by' hl
    exact ⟨b, off, e, hb, fun i hi => hg.cell (hc i hi) (fun e2 => by have := hr b e2.symm; omega)⟩, h.le, h.far⟩
theorem rnum {g B c k k' n' : Nat} {A : Option Addr} {l : List UInt8} {er er' : Int} (W : World) (m : Int) (h : RrS g B A l c W k er) (hq : numQ l k er m = (k', n', er')) (hl : l.length ≤ c) (hn : l.length ≤ 140737488355328) :
    Calls Try.prog 35 #[.pointer (some ⟨g, 0, none⟩), .int .i64 m] W fun e w' => e = .returned (.int .u64 (n' : Int)) ∧ RrS g B A l c w' k' er' ∧ W.grownBy w' (some g) := by
  have H := numV W m h hl hn
  rwa [hq] at H
theorem rtake {g B c k k' : Nat} {A : Option Addr} {l d' : List UInt8} {er er' : Int} (W : World) (m : Int) (h : RrS g B A l c W k er) (hq : takeQ l k er m = (k', d', er')) (hl : l.length ≤ c) (hn : l.length ≤ 140737488355328) (hnil : A = none → c = 0) :
    Calls Try.prog 36 #[.pointer (some ⟨g, 0, none⟩), .int .i64 m] W fun e w' => ∃ A2 c2, e = .returned (.slice A2 d'.length c2) ∧ RrS g B A l c w' k' er' ∧ W.grownBy w' (some g) ∧ d'.length ≤ c2 ∧ Byt w' w'.heap.size A2 d' ∧ (A2 = none → c2 = 0) ∧ ∀ a, A2 = some a → W.heap.size ≤ a.block := by
  have H := takeV W m h hl hn hnil
  rw [hq] at H
  refine H.mono ?_
  rintro e w' ⟨⟨v, rfl, ho⟩, h2, h3⟩
  obtain ⟨A2, c2, rfl, hc, hb, hn, ha⟩ := ho.shape
  exact ⟨A2, c2, rfl, h2, h3, hc, hb, hn, fun a e => (ha a e).1⟩
theorem wpList_valG {P : Program} {w : World} {ops : Array Oper} {rest : List Oper} {o : Oper} {a : Act} {Q : Exit → Act → World → Prop} (hgd : o.guard = none) (v : Value) (hr : (execOp a.eval o).run P w = .ok (.value v) w) (h : wpList P ops Q rest (a.put o.dst v) w) : wpList P ops Q (o :: rest) a w := by
  refine wpList_plain hgd fun K hK => ?_
  unfold Oper.wp
  rw [hr]
  exact hK _ _ h
theorem wpList_bsG {P : Program} {w : World} {ops : Array Oper} {rest : List Oper} {o : Oper} {a : Act} {Q : Exit → Act → World → Prop} (hgd : o.guard = none) (t : TypeId) (n : Nat) (x : Operand)
    (ho : o.op = .buildSlice t n #[(0, x)]) (v : Value) (hx : a.eval x = v) {r : Value} {w' : World} (hr : (Instr.buildSlice t n #[(0, v)]).run P w = .ok r w') (h : wpList P ops Q rest (a.put o.dst r) w') : wpList P ops Q (o :: rest) a w := by
  refine wpList_plain hgd fun K hK => ?_
  unfold Oper.wp execOp
  simp only [ho, Sem.run_bind, Sem.run_pure, List.map_toArray, List.map_cons, List.map_nil, hx, hr, Result.andThen_ok]
  exact hK _ _ h
theorem bs_roptG (w : World) (c t : Int) (A : Option Addr) (n k : Nat) : (Instr.buildSlice 36 1 #[(0, .agg #[.int .i64 c, .int .i64 t, .slice A n k])]).run Try.prog w = .ok (.slice (some ⟨w.heap.size, 0, none⟩) 1 1) (w.alloc (.cells #[.int .i64 c, .int .i64 t, .slice A n k] 67)) := by kernel_rfl
theorem rkOf {w : World} {g n c k : Nat} {A : Option Addr} {er : Int} (h : Rr w g A n c k er) : kOfG w g = k := by
  unfold kOfG; rw [h.c1]; rfl
/-- options read so far by the document's own Parse, and what is left to read. -/
structure PrI (w wr : World) (g5 g B : Nat) (A : Option Addr) (c : Nat) (d : List UInt8) (R : List OpD × Int) (Z : Array Value) (o : Bool) (p v : Int) (Av : Option Addr) (cv K n : Nat) (l : List OpG) : Prop where
  rr : RrS g B A d c wr K 0
  box : wr.heap[g5]? = some (.cells (tunA o p v Av l.length cv none 0 0) 38 (0, 0))
  zr : wr.heap[w.heap.size]? = some (.cells Z 38 (0, 0))
  og : OgS wr (g + 1) 67 (.slice Av l.length cv) l
  far : ∀ x ∈ l, 0 < x.d.length → ∀ a, x.a = some a → g < a.block
  len : l.length ≤ K
  fuel : d.length ≤ K + n
  res : optsP d n K (l.map OpG.say) = R
  bel : Below w.heap.size w wr
  lo : w.heap.size < g5
  lo2 : g5 < g
  lo3 : g5 < B
section
variable {w wr w2 : World} {g5 g B : Nat} {A : Option Addr} {c : Nat} {d : List UInt8} {R : List OpD × Int} {Z : Array Value} {o : Bool} {p v : Int} {Av : Option Addr} {cv K n : Nat} {l : List OpG}
/-- all but the Reader. -/
structure PrO (w wr : World) (g5 g : Nat) (Z : Array Value) (o : Bool) (p v : Int) (Av : Option Addr) (cv : Nat) (l : List OpG) : Prop where
  box : wr.heap[g5]? = some (.cells (tunA o p v Av l.length cv none 0 0) 38 (0, 0))
  zr : wr.heap[w.heap.size]? = some (.cells Z 38 (0, 0))
  og : OgS wr (g + 1) 67 (.slice Av l.length cv) l
  far : ∀ x ∈ l, 0 < x.d.length → ∀ a, x.a = some a → g < a.block
  bel : Below w.heap.size w wr
  lo : w.heap.size < g5
  lo2 : g5 < g
theorem PrI.oth (h : PrI w wr g5 g B A c d R Z o p v Av cv K n l) : PrO w wr g5 g Z o p v Av cv l := ⟨h.box, h.zr, h.og, h.far, h.bel, h.lo, h.lo2⟩
theorem PrO.ask (h : PrO w wr g5 g Z o p v Av cv l) (hg : wr.grownBy w2 (some g)) : PrO w w2 g5 g Z o p v Av cv l := by
  have l1 := (Array.getElem?_eq_some_iff.1 h.box).1
  have l2 := (Array.getElem?_eq_some_iff.1 h.zr).1
  have h1 := h.lo
  have h2 := h.lo2
  exact ⟨(hg.block g5 l1 (by simp; omega)).trans h.box, (hg.block _ l2 (by simp; omega)).trans h.zr, h.og.box hg (Nat.lt_succ_self _) (fun x hx hp a e e2 => by have := h.far x hx hp a e; omega), h.far, h.bel.grown hg h.bel.size (fun k e => by cases e; omega), h.lo, h.lo2⟩
theorem PrO.below (h : PrO w wr g5 g Z o p v Av cv l) (hb : Below wr.heap.size wr w2) : PrO w w2 g5 g Z o p v Av cv l := by
  have l1 := (Array.getElem?_eq_some_iff.1 h.box).1
  have l2 := (Array.getElem?_eq_some_iff.1 h.zr).1
  exact ⟨(hb.block g5 l1).trans h.box, (hb.block _ l2).trans h.zr, h.og.below hb, h.far, h.bel.trans (hb.mono h.bel.size), h.lo, h.lo2⟩
/-- a store into a box that lies behind all that. -/
theorem PrO.behind {i : Nat} (h : PrO w wr g5 g Z o p v Av cv l) (hg : wr.grownBy w2 (some i)) (hi : g < i) (hv : ∀ k, (Value.slice Av l.length cv).ownBlock = some k → k < i) (ha : ∀ x ∈ l, 0 < x.d.length → ∀ a, x.a = some a → a.block < i) : PrO w w2 g5 g Z o p v Av cv l := by
  have l1 := (Array.getElem?_eq_some_iff.1 h.box).1
  have l2 := (Array.getElem?_eq_some_iff.1 h.zr).1
  have h1 := h.lo
  have h2 := h.lo2
  refine ⟨(hg.block g5 l1 (by simp; omega)).trans h.box, (hg.block _ l2 (by simp; omega)).trans h.zr, h.og.grown hg ?_ (fun x hx hp a e e2 => by have := ha x hx hp a e; have := Option.some.inj e2; omega), h.far, h.bel.grown hg h.bel.size (fun k e => by cases e; omega), h.lo, h.lo2⟩
  cases hv' : (Value.slice Av l.length cv).ownBlock with
  | none => exact .inl rfl
  | some k => have := hv k hv'; exact .inr (by simp; omega)
theorem PrO.own (h : PrO w wr g5 g Z o p v Av cv l) {k : Nat} (hk : (Value.slice Av l.length cv).ownBlock = some k) : g < k ∧ k < wr.heap.size := by
  have := World.ownsRow.lt h.og.row k hk; omega
theorem PrO.ob (h : PrO w wr g5 g Z o p v Av cv l) : ∀ x ∈ l, 0 < x.d.length → ∀ a, x.a = some a → a.block < wr.heap.size := fun x hx hp a e => (h.og.ob x hx).1.blk hp e
/-- one option more: behind the append and its store into the tunnel. -/
theorem PrO.snoc {w3 : World} (h : PrO w wr g5 g Z o p v Av cv l) {x : OpG} {gg cap : Nat} (hg : wr.grownBy w3 (Value.slice Av l.length cv).ownBlock) (hv : w3.ownsRow (g + 1) 67 3 (.slice (some ⟨gg, 0, none⟩) (l.length + 1) cap) (l.length + 1) (ogsC l ++ ogC x))
    (ha : (Value.slice Av l.length cv).ownBlock = some gg ∨ wr.heap.size ≤ gg) (hx : Byt wr wr.heap.size x.a x.d ∧ (x.a = none → x.k = 0) ∧ x.d.length ≤ x.k) (hxa : 0 < x.d.length → ∀ a, x.a = some a → g < a.block ∧ (Value.slice Av l.length cv).ownBlock ≠ some a.block) :
    PrO w (w3.setCell ⟨g5, 3, none⟩ (.slice (some ⟨gg, 0, none⟩) (l.length + 1) cap)) g5 g Z o p v (some ⟨gg, 0, none⟩) cap (l ++ [x]) := by
  have l1 := (Array.getElem?_eq_some_iff.1 h.box).1
  have l2 := (Array.getElem?_eq_some_iff.1 h.zr).1
  have h1 := h.lo
  have h2 := h.lo2
  have hne : ∀ i, i ≤ g → (Value.slice Av l.length cv).ownBlock ≠ some i := fun i hi e => by have := (World.ownsRow.lt h.og.row i e).1; omega
  have b3 : w3.heap[g5]? = some (.cells (tunA o p v Av l.length cv none 0 0) 38 (0, 0)) := (hg.block g5 l1 (fun e => hne _ (by omega) e.symm)).trans h.box
  have z3 := (hg.block _ l2 (fun e => hne _ (by omega) e.symm)).trans h.zr
  have s3 := h.og.snoc hg hv (fun k e => by cases e; exact ha) hx (fun hl a e => (hxa hl a e).2)
  have gs : w3.grownBy (w3.setCell ⟨g5, 3, none⟩ (.slice (some ⟨gg, 0, none⟩) (l.length + 1) cap)) (some g5) := grown_set w3 g5 3 _
  have hfar : ∀ y ∈ l ++ [x], 0 < y.d.length → ∀ a, y.a = some a → g < a.block := fun y hy hl a e => by
    rcases List.mem_append.1 hy with q | q
    · exact h.far y q hl a e
    · rw [List.mem_singleton] at q; subst q; exact (hxa hl a e).1
  have hl : (l ++ [x]).length = l.length + 1 := by simp
  have hsz := hg.size
  refine ⟨?_, (gs.block _ (by omega) (by simp; omega)).trans z3, ?_, hfar, ?_, h.lo, h.lo2⟩
  · rw [hl]; exact heap_setCell_same w3 g5 3 _ _ _ b3
  · rw [hl]; exact s3.box gs (by omega) (fun y hy hp a e e2 => by have := hfar y hy hp a e; omega)
  · refine (h.bel.grown hg h.bel.size (fun k e => ?_)).grown gs (Nat.le_trans h.bel.size hg.size) (fun k e => by cases e; omega)
    have := (World.ownsRow.lt h.og.row k e).1; omega
end
set_option maxHeartbeats 8000000 in
theorem refparGF_any (w : World) (A : Option Addr) (c : Nat) (b : List UInt8) (hb : Byt w w.heap.size A b) (hlc : b.length ≤ c) (hn : b.length ≤ 140737488351232) (hnil : A = none → c = 0) :
    Calls Try.prog 17 #[.slice A b.length c] w (PaF w (parD b)) := by
  obtain ⟨R, hR⟩ : ∃ R, R = parD b := ⟨_, rfl⟩
  rw [← hR]
  have HR := hide hR
  have HN := hide hn
  obtain ⟨Z, hZ⟩ : ∃ Z, Z = tunA false 0 0 none 0 0 none 0 0 := ⟨_, rfl⟩
  have hbn := rbuilt_tun0
  rw [← hZ] at hbn
  have hZs : Z.size = 5 := by rw [hZ]; rfl
  have hZo : allOne Z = true := by rw [hZ]; exact tunA_one _ _ _ _ _ _ _ _ _
  have HZE := hide hZ
  obtain ⟨W, hW, r0, z0, b0⟩ := alloc_tl w (.cells Z 38)
  have HB := hide b0
  have HZ := hide z0
  have HBY := hide ((hb.below b0).more b0.size)
  have HNIL := hide hnil
  have HLC := hide hlc
  rw [hZ] at hW
  have HW := hide hW
  have HBW := hide hb
  obtain ⟨i0, hi, hz0', hz1', hz2'⟩ := info_parts info_roptG
  clear hR hZ hW z0 b0 hnil hb
  by_cases h8 : b.length < 8
  · have hlt : (b.length : Int) < 8 := by omega
    have HE := hide (show R = (zT, 10) by rw [HR.out]; unfold parD; rw [if_pos h8])
    clear h8 hlc hn
    go_enter Try.func17, Try.ntmps17
    go_upto_region 1 with (fail)
    change Code.wp _ _ _ _ (w.alloc (.cells (tunA false 0 0 none 0 0 none 0 0) 38))
    rw [HW.out]
    go_wp2_with fail
    refine bodyPost_ret (results_cell_tmp (fn := Try.f17) Try.results17 _ _ w.heap.size 38 Z (0, 0) _ rfl (setRow_heap W w.heap.size Z Z _ _ r0) Try.underlying38 rfl (by rw [hZs]; exact info_rtunG)) rfl ?_
    exact paF_err HZE.out HE.out (below_setRow (HB.out) (Nat.le_refl _) _)
  · have hlt : ¬ (b.length : Int) < 8 := by omega
    obtain ⟨bb, off, rfl, hbB, hc⟩ := HBY.out (by omega)
    obtain ⟨N0, hN0⟩ : ∃ n, n = atN b 0 1 := ⟨_, rfl⟩
    obtain ⟨N1, hN1⟩ : ∃ n, n = atN b 1 1 := ⟨_, rfl⟩
    obtain ⟨N2, hN2⟩ : ∃ n, n = atN b 2 1 := ⟨_, rfl⟩
    obtain ⟨N3, hN3⟩ : ∃ n, n = atN b 3 1 := ⟨_, rfl⟩
    obtain ⟨N4, hN4⟩ : ∃ n, n = atN b 4 1 := ⟨_, rfl⟩
    obtain ⟨N5, hN5⟩ : ∃ n, n = atN b 5 1 := ⟨_, rfl⟩
    obtain ⟨N6, hN6⟩ : ∃ n, n = atN b 6 1 := ⟨_, rfl⟩
    obtain ⟨N7, hN7⟩ : ∃ n, n = atN b 7 1 := ⟨_, rfl⟩
    have e0 : W.cell? ⟨bb, off, none⟩ = some (.int .u8 (N0 : Int)) := by have := hc 0 (by omega); rw [← atN_at, ← hN0] at this; exact this
    have e1 : W.cell? ⟨bb, off + 1, none⟩ = some (.int .u8 (N1 : Int)) := by have := hc 1 (by omega); rw [← atN_at, ← hN1] at this; exact this
    have e2 : W.cell? ⟨bb, off + 2, none⟩ = some (.int .u8 (N2 : Int)) := by have := hc 2 (by omega); rw [← atN_at, ← hN2] at this; exact this
    have e3 : W.cell? ⟨bb, off + 3, none⟩ = some (.int .u8 (N3 : Int)) := by have := hc 3 (by omega); rw [← atN_at, ← hN3] at this; exact this
    have e4 : W.cell? ⟨bb, off + 4, none⟩ = some (.int .u8 (N4 : Int)) := by have := hc 4 (by omega); rw [← atN_at, ← hN4] at this; exact this
    have e5 : W.cell? ⟨bb, off + 5, none⟩ = some (.int .u8 (N5 : Int)) := by have := hc 5 (by omega); rw [← atN_at, ← hN5] at this; exact this
    have e6 : W.cell? ⟨bb, off + 6, none⟩ = some (.int .u8 (N6 : Int)) := by have := hc 6 (by omega); rw [← atN_at, ← hN6] at this; exact this
    have e7 : W.cell? ⟨bb, off + 7, none⟩ = some (.int .u8 (N7 : Int)) := by have := hc 7 (by omega); rw [← atN_at, ← hN7] at this; exact this
    have v0 : N0 < 256 := by rw [hN0]; exact atN_lt b 0 1
    have v1 : N1 < 256 := by rw [hN1]; exact atN_lt b 1 1
    have v2 : N2 < 256 := by rw [hN2]; exact atN_lt b 2 1
    have v3 : N3 < 256 := by rw [hN3]; exact atN_lt b 3 1
    have v4 : N4 < 256 := by rw [hN4]; exact atN_lt b 4 1
    have v5 : N5 < 256 := by rw [hN5]; exact atN_lt b 5 1
    have v6 : N6 < 256 := by rw [hN6]; exact atN_lt b 6 1
    have v7 : N7 < 256 := by rw [hN7]; exact atN_lt b 7 1
    have q2 : atN b 2 2 = N2 * 256 + N3 := by rw [atN_pair (by omega), ← hN2, ← hN3]
    have q4 : atN b 4 3 = N4 * 65536 + N5 * 256 + N6 := by rw [atN_three (by omega), ← hN4, ← hN5, ← hN6]
    have hRR := HR.out
    unfold parD at hRR
    rw [if_neg h8, ← hN0, ← hN1, ← hN7, q2, q4] at hRR
    have HRR := hide hRR
    have HV := hide (And.intro v0 (And.intro v1 (And.intro v2 (And.intro v3 (And.intro v4 (And.intro v5 (And.intro v6 v7)))))))
    have HBB : Hid (bb < W.heap.size) := hide hbB
    have H8 : Hid (8 ≤ b.length) := hide (by omega)
    have l0 : (0 : Int) < (b.length : Int) := by omega
    have l1 : (1 : Int) < (b.length : Int) := by omega
    have l2 : (2 : Int) < (b.length : Int) := by omega
    have l3 : (3 : Int) < (b.length : Int) := by omega
    have l4 : (4 : Int) < (b.length : Int) := by omega
    have l5 : (5 : Int) < (b.length : Int) := by omega
    have l6 : (6 : Int) < (b.length : Int) := by omega
    have l7 : (7 : Int) < (b.length : Int) := by omega
    have HC1 : Hid (∀ wr : World, Below w.heap.size w wr → wr.cell? ⟨bb, off + 1, none⟩ = some (.int .u8 (N1 : Int))) := hide (fun wr hbl => by
      obtain ⟨b', o', e, hlt', hc'⟩ := (HBW.out.below hbl) (by omega)
      cases e
      have := hc' 1 (by omega)
      rw [← atN_at, ← hN1] at this
      exact this)
    clear hRR q2 q4 hN0 hN1 hN2 hN3 hN4 hN5 hN6 hN7 hc hbB hlc hn h8
    by_cases h64 : 64 ≤ N0
    · have f1 : (N0 : Int) ≥ 64 := by omega
      have HE := hide (show R = (zT, 13) by rw [HRR.out, if_pos h64])
      clear h64 v0 v1 v2 v3 v4 v5 v6 v7
      go_enter Try.func17, Try.ntmps17
      go_upto_region 1 with (fail)
      change Code.wp _ _ _ _ (w.alloc (.cells (tunA false 0 0 none 0 0 none 0 0) 38))
      rw [HW.out]
      go_wp2_with fail
      refine bodyPost_ret (results_cell_tmp (fn := Try.f17) Try.results17 _ _ w.heap.size 38 Z (0, 0) _ rfl (setRow_heap W w.heap.size Z Z _ _ r0) Try.underlying38 rfl (by rw [hZs]; exact info_rtunG)) rfl ?_
      exact paF_err HZE.out HE.out (below_setRow (HB.out) (Nat.le_refl _) _)
    have f1 : ¬ (N0 : Int) ≥ 64 := by omega
    obtain ⟨Y1, hY1⟩ : ∃ y, y = N1 % 64 := ⟨_, rfl⟩
    have m1 : (N1 : Int) % 64 = (Y1 : Int) := by omega
    have m2 : IntKind.u8.wrap (Y1 : Int) = (Y1 : Int) := IntWalk.u8_in _ (by omega)
    by_cases hbad : N1 % 64 ≠ 0 ∨ N7 ≠ 0
    · have HE := hide (show R = (zT, 11) by rw [HRR.out, if_neg h64, if_pos hbad])
      have hcase : ((Y1 : Int) != 0) = true ∨ (((Y1 : Int) != 0) = false ∧ ((N7 : Int) != 0) = true) := by
        rcases Nat.eq_zero_or_pos Y1 with h | h
        · rw [h]; exact .inr ⟨rfl, by rcases hbad with h2 | h2 <;> simp <;> omega⟩
        · exact .inl (by simp; omega)
      clear h64 hbad hY1 v0 v1 v2 v3 v4 v5 v6 v7
      go_enter Try.func17, Try.ntmps17
      go_upto_region 1 with (fail)
      change Code.wp _ _ _ _ (w.alloc (.cells (tunA false 0 0 none 0 0 none 0 0) 38))
      rw [HW.out]
      rcases hcase with f2 | ⟨f2, f3⟩
      all_goals (
        go_wp2_with fail
        refine bodyPost_ret (results_cell_tmp (fn := Try.f17) Try.results17 _ _ w.heap.size 38 Z (0, 0) _ rfl (setRow_heap W w.heap.size Z Z _ _ r0) Try.underlying38 rfl (by rw [hZs]; exact info_rtunG)) rfl ?_
        exact paF_err HZE.out HE.out (below_setRow (HB.out) (Nat.le_refl _) _))
    have hz : Y1 = 0 ∧ N7 = 0 := by omega
    obtain ⟨rfl, rfl⟩ := hz
    have g2 : (((0 : Nat) : Int) != 0) = false := rfl
    have hRR := HRR.out
    rw [if_neg h64, if_neg hbad] at hRR
    obtain ⟨M, hM⟩ : ∃ M, M = 4 * N0 := ⟨_, rfl⟩
    rw [← hM] at hRR
    have HM := hide hM
    have w0 : IntKind.i64.wrap (N0 : Int) = (N0 : Int) := IntWalk.i64_in _ (by omega)
    have w4 : IntKind.i64.wrap (4 * (N0 : Int)) = (M : Int) := by rw [show 4 * (N0 : Int) = (M : Int) by omega]; exact IntWalk.i64_in _ (by omega)
    obtain ⟨L8, hL8⟩ : ∃ n, n = b.length - 8 := ⟨_, rfl⟩
    have HL8 : Hid (b.length = L8 + 8) := hide (by have := H8.out; omega)
    have w5 : (b.length : Int) - 8 = (L8 : Int) := by have := H8.out; omega
    have w6 : IntKind.i64.wrap (L8 : Int) = (L8 : Int) := IntWalk.i64_in _ (by have := HN.out; omega)
    have HRR := hide hRR
    have HM64 : Hid (M ≤ 252) := hide (by omega)
    clear hRR h64 hbad hY1 hM hL8
    by_cases hsh : L8 < M
    · have f4 : (L8 : Int) < (M : Int) := by omega
      have HE := hide (show R = (zT, 10) by rw [HRR.out, if_pos (by have := HL8.out; omega)])
      clear hsh v0 v1 v2 v3 v4 v5 v6
      go_enter Try.func17, Try.ntmps17
      go_upto_region 1 with (fail)
      change Code.wp _ _ _ _ (w.alloc (.cells (tunA false 0 0 none 0 0 none 0 0) 38))
      rw [HW.out]
      go_wp2_with fail
      refine bodyPost_ret (results_cell_tmp (fn := Try.f17) Try.results17 _ _ w.heap.size 38 Z (0, 0) _ rfl (setRow_heap W w.heap.size Z Z _ _ r0) Try.underlying38 rfl (by rw [hZs]; exact info_rtunG)) rfl ?_
      exact paF_err HZE.out HE.out (below_setRow (HB.out) (Nat.le_refl _) _)
    have f4 : ¬ (L8 : Int) < (M : Int) := by omega
    have hRR := HRR.out
    rw [if_neg (by have := HL8.out; omega)] at hRR
    obtain ⟨d, hd⟩ : ∃ d, d = (b.drop 8).take M := ⟨_, rfl⟩
    have hdl : d.length = M := by rw [hd]; simp; have := HL8.out; omega
    rw [← hd, show optsP d M 0 [] = optsP d d.length 0 [] by rw [hdl]] at hRR
    obtain ⟨OP, hOP⟩ : ∃ r, r = optsP d d.length 0 [] := ⟨_, rfl⟩
    rw [← hOP] at hRR
    have HOP := hide hOP
    have HD := hide hd
    have HDL := hide hdl
    have HRR := hide hRR
    obtain ⟨E8, hE8⟩ : ∃ n, n = 8 + M := ⟨_, rfl⟩
    have hs1 : IntKind.i64.wrap (8 + (M : Int)) = (E8 : Int) := by rw [show 8 + (M : Int) = (E8 : Int) by omega]; exact IntWalk.i64_in _ (by have := HM64.out; omega)
    have hs2 : (8 : Int) ≤ (E8 : Int) := by omega
    have hs3 : (E8 : Int) ≤ (c : Int) := by have := HL8.out; have := HLC.out; omega
    have hs4 : (0 : Int) ≤ (E8 : Int) := by omega
    have hs5 : (8 : Int) ≤ (c : Int) := by omega
    have HE8 := hide hE8
    obtain ⟨oo, hoo⟩ : ∃ o, o = decide (128 ≤ N1) := ⟨_, rfl⟩
    have hge : decide ((N1 : Int) ≥ 128) = oo := by rw [hoo]; exact decide_eq_decide.2 (by omega)
    obtain ⟨pp, hpp⟩ : ∃ p : Int, p = ((N2 * 256 + N3 : Nat) : Int) := ⟨_, rfl⟩
    obtain ⟨vv, hvv⟩ : ∃ p : Int, p = ((N4 * 65536 + N5 * 256 + N6 : Nat) : Int) := ⟨_, rfl⟩
    have o1 := or_two v2 v3
    have o2 := or_mid v4 v5
    have o3 := or_last v4 v5 v6
    rw [← hpp] at o1
    rw [← hvv] at o3
    have s1 : IntKind.i64.wrap ((N2 : Int) * 256) = (N2 : Int) * 256 := IntWalk.i64_in _ (by omega)
    have s2 : IntKind.i64.wrap ((N4 : Int) * 65536) = (N4 : Int) * 65536 := IntWalk.i64_in _ (by omega)
    have s3 : IntKind.i64.wrap ((N5 : Int) * 256) = (N5 : Int) * 256 := IntWalk.i64_in _ (by omega)
    have y2 : IntKind.i64.wrap (N2 : Int) = (N2 : Int) := IntWalk.i64_in _ (by omega)
    have y3 : IntKind.i64.wrap (N3 : Int) = (N3 : Int) := IntWalk.i64_in _ (by omega)
    have y4 : IntKind.i64.wrap (N4 : Int) = (N4 : Int) := IntWalk.i64_in _ (by omega)
    have y5 : IntKind.i64.wrap (N5 : Int) = (N5 : Int) := IntWalk.i64_in _ (by omega)
    have y6 : IntKind.i64.wrap (N6 : Int) = (N6 : Int) := IntWalk.i64_in _ (by omega)
    rw [show ((N2 * 256 + N3 : Nat) : Int) = pp from hpp.symm, show ((N4 * 65536 + N5 * 256 + N6 : Nat) : Int) = vv from hvv.symm, ← hoo] at HRR
    obtain ⟨QQ, hQQ⟩ : ∃ q : Int, q = ((N4 * 65536 + N5 * 256 : Nat) : Int) := ⟨_, rfl⟩
    rw [← hQQ] at o2 o3
    have hb3 := rbuilt_tun3 oo pp vv
    obtain ⟨T0, hT0⟩ : ∃ T, T = tunA oo pp vv none 0 0 none 0 0 := ⟨_, rfl⟩
    rw [← hT0] at hb3
    have hTs : T0.size = 5 := by rw [hT0]; rfl
    have hTo : allOne T0 = true := by rw [hT0]; exact tunA_one _ _ _ _ _ _ _ _ _
    have HT0 := hide hT0
    have HE1 := hide (And.intro e1 r0)
    clear hRR hd hdl hOP hE8 hoo hpp hvv hQQ hT0 v0 v1 v2 v3 v4 v5 v6 v7 hsh
    go_enter Try.func17, Try.ntmps17
    go_upto_region 1 with (fail)
    change Code.wp _ _ _ _ (w.alloc (.cells (tunA false 0 0 none 0 0 none 0 0) 38))
    rw [HW.out]
    go_upto_region 10 with (fail)
    refine wp_region_upZ (S := (fun w' => w'.cell? ⟨bb, off + 1, none⟩ = some (.int .u8 (N1 : Int)) ∧ w'.cell? ⟨bb, off + 2, none⟩ = some (.int .u8 (N2 : Int)) ∧ w'.cell? ⟨bb, off + 3, none⟩ = some (.int .u8 (N3 : Int)) ∧ w'.cell? ⟨bb, off + 4, none⟩ = some (.int .u8 (N4 : Int)) ∧ w'.cell? ⟨bb, off + 5, none⟩ = some (.int .u8 (N5 : Int)) ∧ w'.cell? ⟨bb, off + 6, none⟩ = some (.int .u8 (N6 : Int)))) 32 (by kernel_rfl) ⟨e1, e2, e3, e4, e5, e6⟩ (fun hHeld => ?_)
    refine upZ_take (i := 0) (oi := ⟨some 42, _, _, _, _, _⟩) (v := ?_) rfl (by kernel_rfl) (by kernel_rfl) (by kernel_rfl) (by kernel_rfl) (fun _ _ _ h => h) (Or.inl ⟨by rfl, ?_⟩) hHeld ?_
    rotate_left
    · (intro w' hSw; (try dsimp only at hSw); go_split_ands; go_simp; try with_reducible rfl)
    (try simp only [Act.put, List.setIfInBounds_toArray, List.set_cons_zero, List.set_cons_succ])
    refine upZ_take (i := 1) (oi := ⟨some 43, _, _, _, _, _⟩) (v := ?_) rfl (by kernel_rfl) (by kernel_rfl) (by kernel_rfl) (by kernel_rfl) (fun _ _ _ h => h) (Or.inl ⟨by rfl, ?_⟩) hHeld ?_
    rotate_left
    · (intro w' hSw; (try dsimp only at hSw); go_split_ands; go_simp; try with_reducible rfl)
    (try simp only [Act.put, List.setIfInBounds_toArray, List.set_cons_zero, List.set_cons_succ])
    refine upZ_take (i := 2) (oi := ⟨some 44, _, _, _, _, _⟩) (v := ?_) rfl (by kernel_rfl) (by kernel_rfl) (by kernel_rfl) (by kernel_rfl) (fun _ _ _ h => h) (Or.inl ⟨by rfl, ?_⟩) hHeld ?_
    rotate_left
    · (intro w' hSw; (try dsimp only at hSw); go_split_ands; go_simp; try with_reducible rfl)
    (try simp only [Act.put, List.setIfInBounds_toArray, List.set_cons_zero, List.set_cons_succ])
    refine upZ_take (i := 3) (oi := ⟨some 45, _, _, _, _, _⟩) (v := ?_) rfl (by kernel_rfl) (by kernel_rfl) (by kernel_rfl) (by kernel_rfl) (fun _ _ _ h => h) (Or.inl ⟨by rfl, ?_⟩) hHeld ?_
    rotate_left
    · (intro w' hSw; (try dsimp only at hSw); go_split_ands; go_simp; try with_reducible rfl)
    (try simp only [Act.put, List.setIfInBounds_toArray, List.set_cons_zero, List.set_cons_succ])
    refine upZ_take (i := 4) (oi := ⟨some 46, _, _, _, _, _⟩) (v := ?_) rfl (by kernel_rfl) (by kernel_rfl) (by kernel_rfl) (by kernel_rfl) (fun _ _ _ h => h) (Or.inl ⟨by rfl, ?_⟩) hHeld ?_
    rotate_left
    · (intro w' hSw; (try dsimp only at hSw); go_split_ands; go_simp; try with_reducible rfl)
    (try simp only [Act.put, List.setIfInBounds_toArray, List.set_cons_zero, List.set_cons_succ])
    refine upZ_take (i := 5) (oi := ⟨some 47, _, _, _, _, _⟩) (v := ?_) rfl (by kernel_rfl) (by kernel_rfl) (by kernel_rfl) (by kernel_rfl) (fun _ _ _ h => h) (Or.inl ⟨by rfl, ?_⟩) hHeld ?_
    rotate_left
    · (intro w' hSw; (try dsimp only at hSw); go_split_ands; go_simp; try with_reducible rfl)
    (try simp only [Act.put, List.setIfInBounds_toArray, List.set_cons_zero, List.set_cons_succ])
    refine upZ_take (i := 6) (oi := ⟨some 48, _, _, _, _, _⟩) (v := ?_) rfl (by kernel_rfl) (by kernel_rfl) (by kernel_rfl) (by kernel_rfl) (fun _ _ _ h => h) (Or.inl ⟨by rfl, ?_⟩) hHeld ?_
    rotate_left
    · (intro w' hSw; (try dsimp only at hSw); go_split_ands; go_simp; try with_reducible rfl)
    (try simp only [Act.put, List.setIfInBounds_toArray, List.set_cons_zero, List.set_cons_succ])
    refine upZ_take (i := 7) (oi := ⟨some 49, _, _, _, _, _⟩) (v := ?_) rfl (by kernel_rfl) (by kernel_rfl) (by kernel_rfl) (by kernel_rfl) (fun _ _ _ h => h) (Or.inl ⟨by rfl, ?_⟩) hHeld ?_
    rotate_left
    · (intro w' hSw; (try dsimp only at hSw); go_split_ands; go_simp; try with_reducible rfl)
    (try simp only [Act.put, List.setIfInBounds_toArray, List.set_cons_zero, List.set_cons_succ])
    refine upZ_take (i := 8) (oi := ⟨some 50, _, _, _, _, _⟩) (v := ?_) rfl (by kernel_rfl) (by kernel_rfl) (by kernel_rfl) (by kernel_rfl) (fun _ _ _ h => h) (Or.inl ⟨by rfl, ?_⟩) hHeld ?_
    rotate_left
    · (intro w' hSw; (try dsimp only at hSw); go_split_ands; go_simp; try with_reducible rfl)
    (try simp only [Act.put, List.setIfInBounds_toArray, List.set_cons_zero, List.set_cons_succ])
    refine upZ_take (i := 9) (oi := ⟨some 51, _, _, _, _, _⟩) (v := ?_) rfl (by kernel_rfl) (by kernel_rfl) (by kernel_rfl) (by kernel_rfl) (fun _ _ _ h => h) (Or.inl ⟨by rfl, ?_⟩) hHeld ?_
    rotate_left
    · (intro w' hSw; (try dsimp only at hSw); go_split_ands; go_simp; try with_reducible rfl)
    (try simp only [Act.put, List.setIfInBounds_toArray, List.set_cons_zero, List.set_cons_succ])
    refine upZ_take (i := 10) (oi := ⟨some 52, _, _, _, _, _⟩) (v := ?_) rfl (by kernel_rfl) (by kernel_rfl) (by kernel_rfl) (by kernel_rfl) (fun _ _ _ h => h) (Or.inl ⟨by rfl, ?_⟩) hHeld ?_
    rotate_left
    · (intro w' hSw; (try dsimp only at hSw); go_split_ands; go_simp; try with_reducible rfl)
    (try simp only [Act.put, List.setIfInBounds_toArray, List.set_cons_zero, List.set_cons_succ])
    refine upZ_take (i := 11) (oi := ⟨some 53, _, _, _, _, _⟩) (v := ?_) rfl (by kernel_rfl) (by kernel_rfl) (by kernel_rfl) (by kernel_rfl) (fun _ _ _ h => h) (Or.inl ⟨by rfl, ?_⟩) hHeld ?_
    rotate_left
    · (intro w' hSw; (try dsimp only at hSw); go_split_ands; go_simp; try with_reducible rfl)
    (try simp only [Act.put, List.setIfInBounds_toArray, List.set_cons_zero, List.set_cons_succ])
    refine upZ_take (i := 12) (oi := ⟨some 54, _, _, _, _, _⟩) (v := ?_) rfl (by kernel_rfl) (by kernel_rfl) (by kernel_rfl) (by kernel_rfl) (fun _ _ _ h => h) (Or.inl ⟨by rfl, ?_⟩) hHeld ?_
    rotate_left
    · (intro w' hSw; (try dsimp only at hSw); go_split_ands; go_simp; try with_reducible rfl)
    (try simp only [Act.put, List.setIfInBounds_toArray, List.set_cons_zero, List.set_cons_succ])
    refine upZ_take (i := 13) (oi := ⟨some 55, _, _, _, _, _⟩) (v := ?_) rfl (by kernel_rfl) (by kernel_rfl) (by kernel_rfl) (by kernel_rfl) (fun _ _ _ h => h) (Or.inl ⟨by rfl, ?_⟩) hHeld ?_
    rotate_left
    · (intro w' hSw; (try dsimp only at hSw); go_split_ands; go_simp; try with_reducible rfl)
    (try simp only [Act.put, List.setIfInBounds_toArray, List.set_cons_zero, List.set_cons_succ])
    refine upZ_take (i := 14) (oi := ⟨some 56, _, _, _, _, _⟩) (v := ?_) rfl (by kernel_rfl) (by kernel_rfl) (by kernel_rfl) (by kernel_rfl) (fun _ _ _ h => h) (Or.inl ⟨by rfl, ?_⟩) hHeld ?_
    rotate_left
    · (intro w' hSw; (try dsimp only at hSw); go_split_ands; go_simp; try with_reducible rfl)
    (try simp only [Act.put, List.setIfInBounds_toArray, List.set_cons_zero, List.set_cons_succ])
    refine upZ_take (i := 15) (oi := ⟨some 57, _, _, _, _, _⟩) (v := ?_) rfl (by kernel_rfl) (by kernel_rfl) (by kernel_rfl) (by kernel_rfl) (fun _ _ _ h => h) (Or.inl ⟨by rfl, ?_⟩) hHeld ?_
    rotate_left
    · (intro w' hSw; (try dsimp only at hSw); go_split_ands; go_simp; try with_reducible rfl)
    (try simp only [Act.put, List.setIfInBounds_toArray, List.set_cons_zero, List.set_cons_succ])
    refine upZ_take (i := 16) (oi := ⟨some 58, _, _, _, _, _⟩) (v := ?_) rfl (by kernel_rfl) (by kernel_rfl) (by kernel_rfl) (by kernel_rfl) (fun _ _ _ h => h) (Or.inl ⟨by rfl, ?_⟩) hHeld ?_
    rotate_left
    · (intro w' hSw; (try dsimp only at hSw); go_split_ands; go_simp; try with_reducible rfl)
    (try simp only [Act.put, List.setIfInBounds_toArray, List.set_cons_zero, List.set_cons_succ])
    refine upZ_take (i := 17) (oi := ⟨some 59, _, _, _, _, _⟩) (v := ?_) rfl (by kernel_rfl) (by kernel_rfl) (by kernel_rfl) (by kernel_rfl) (fun _ _ _ h => h) (Or.inl ⟨by rfl, ?_⟩) hHeld ?_
    rotate_left
    · (intro w' hSw; (try dsimp only at hSw); go_split_ands; go_simp; try with_reducible rfl)
    (try simp only [Act.put, List.setIfInBounds_toArray, List.set_cons_zero, List.set_cons_succ])
    refine upZ_take (i := 18) (oi := ⟨some 60, _, _, _, _, _⟩) (v := ?_) rfl (by kernel_rfl) (by kernel_rfl) (by kernel_rfl) (by kernel_rfl) (fun _ _ _ h => h) (Or.inl ⟨by rfl, ?_⟩) hHeld ?_
    rotate_left
    · (intro w' hSw; (try dsimp only at hSw); go_split_ands; go_simp; try with_reducible rfl)
    (try simp only [Act.put, List.setIfInBounds_toArray, List.set_cons_zero, List.set_cons_succ])
    refine upZ_take (i := 19) (oi := ⟨some 61, _, _, _, _, _⟩) (v := ?_) rfl (by kernel_rfl) (by kernel_rfl) (by kernel_rfl) (by kernel_rfl) (fun _ _ _ h => h) (Or.inl ⟨by rfl, ?_⟩) hHeld ?_
    rotate_left
    · (intro w' hSw; (try dsimp only at hSw); go_split_ands; go_simp; try with_reducible rfl)
    (try simp only [Act.put, List.setIfInBounds_toArray, List.set_cons_zero, List.set_cons_succ])
    refine upZ_take (i := 20) (oi := ⟨some 62, _, _, _, _, _⟩) (v := ?_) rfl (by kernel_rfl) (by kernel_rfl) (by kernel_rfl) (by kernel_rfl) (fun _ _ _ h => h) (Or.inl ⟨by rfl, ?_⟩) hHeld ?_
    rotate_left
    · (intro w' hSw; (try dsimp only at hSw); go_split_ands; go_simp; try with_reducible rfl)
    (try simp only [Act.put, List.setIfInBounds_toArray, List.set_cons_zero, List.set_cons_succ])
    refine upZ_take (i := 21) (oi := ⟨some 63, _, _, _, _, _⟩) (v := ?_) rfl (by kernel_rfl) (by kernel_rfl) (by kernel_rfl) (by kernel_rfl) (fun _ _ _ h => h) (Or.inl ⟨by rfl, ?_⟩) hHeld ?_
    rotate_left
    · (intro w' hSw; (try dsimp only at hSw); go_split_ands; go_simp; try with_reducible rfl)
    (try simp only [Act.put, List.setIfInBounds_toArray, List.set_cons_zero, List.set_cons_succ])
    refine upZ_take (i := 22) (oi := ⟨some 64, _, _, _, _, _⟩) (v := ?_) rfl (by kernel_rfl) (by kernel_rfl) (by kernel_rfl) (by kernel_rfl) (fun _ _ _ h => h) (Or.inl ⟨by rfl, ?_⟩) hHeld ?_
    rotate_left
    · (intro w' hSw; (try dsimp only at hSw); go_split_ands; go_simp; try with_reducible rfl)
    (try simp only [Act.put, List.setIfInBounds_toArray, List.set_cons_zero, List.set_cons_succ])
    refine upZ_take (i := 23) (oi := ⟨some 65, _, _, _, _, _⟩) (v := ?_) rfl (by kernel_rfl) (by kernel_rfl) (by kernel_rfl) (by kernel_rfl) (fun _ _ _ h => h) (Or.inl ⟨by rfl, ?_⟩) hHeld ?_
    rotate_left
    · (intro w' hSw; (try dsimp only at hSw); go_split_ands; go_simp; try with_reducible rfl)
    (try simp only [Act.put, List.setIfInBounds_toArray, List.set_cons_zero, List.set_cons_succ])
    refine upZ_take (i := 24) (oi := ⟨some 66, _, _, _, _, _⟩) (v := ?_) rfl (by kernel_rfl) (by kernel_rfl) (by kernel_rfl) (by kernel_rfl) (fun _ _ _ h => h) (Or.inl ⟨by rfl, ?_⟩) hHeld ?_
    rotate_left
    · (intro w' hSw; (try dsimp only at hSw); go_split_ands; go_simp; try with_reducible rfl)
    (try simp only [Act.put, List.setIfInBounds_toArray, List.set_cons_zero, List.set_cons_succ])
    refine upZ_take (i := 25) (oi := ⟨some 67, _, _, _, _, _⟩) (v := ?_) rfl (by kernel_rfl) (by kernel_rfl) (by kernel_rfl) (by kernel_rfl) (fun _ _ _ h => h) (Or.inl ⟨by rfl, ?_⟩) hHeld ?_
    rotate_left
    · (intro w' hSw; (try dsimp only at hSw); go_split_ands; go_simp; try with_reducible rfl)
    (try simp only [Act.put, List.setIfInBounds_toArray, List.set_cons_zero, List.set_cons_succ])
    refine upZ_take (i := 26) (oi := ⟨some 68, _, _, _, _, _⟩) (v := ?_) rfl (by kernel_rfl) (by kernel_rfl) (by kernel_rfl) (by kernel_rfl) (fun _ _ _ h => h) (Or.inl ⟨by rfl, ?_⟩) hHeld ?_
    rotate_left
    · (intro w' hSw; (try dsimp only at hSw); go_split_ands; go_simp; try with_reducible rfl)
    (try simp only [Act.put, List.setIfInBounds_toArray, List.set_cons_zero, List.set_cons_succ])
    refine upZ_take (i := 27) (oi := ⟨some 69, _, _, _, _, _⟩) (v := ?_) rfl (by kernel_rfl) (by kernel_rfl) (by kernel_rfl) (by kernel_rfl) (fun _ _ _ h => h) (Or.inl ⟨by rfl, ?_⟩) hHeld ?_
    rotate_left
    · (intro w' hSw; (try dsimp only at hSw); go_split_ands; go_simp; try with_reducible rfl)
    (try simp only [Act.put, List.setIfInBounds_toArray, List.set_cons_zero, List.set_cons_succ])
    refine upZ_take (i := 28) (oi := ⟨some 70, _, _, _, _, _⟩) (v := ?_) rfl (by kernel_rfl) (by kernel_rfl) (by kernel_rfl) (by kernel_rfl) (fun _ _ _ h => h) (Or.inl ⟨by rfl, ?_⟩) hHeld ?_
    rotate_left
    · (intro w' hSw; (try dsimp only at hSw); go_split_ands; go_simp; try with_reducible rfl)
    (try simp only [Act.put, List.setIfInBounds_toArray, List.set_cons_zero, List.set_cons_succ])
    refine upZ_take (i := 29) (oi := ⟨some 71, _, _, _, _, _⟩) (v := ?_) rfl (by kernel_rfl) (by kernel_rfl) (by kernel_rfl) (by kernel_rfl) (fun _ _ _ h => h) (Or.inl ⟨by rfl, ?_⟩) hHeld ?_
    rotate_left
    · (intro w' hSw; (try dsimp only at hSw); go_split_ands; go_simp; try with_reducible rfl)
    (try simp only [Act.put, List.setIfInBounds_toArray, List.set_cons_zero, List.set_cons_succ])
    refine upZ_take (i := 30) (oi := ⟨some 72, _, _, _, _, _⟩) (v := ?_) rfl (by kernel_rfl) (by kernel_rfl) (by kernel_rfl) (by kernel_rfl) (fun _ _ _ h => h) (Or.inl ⟨by rfl, ?_⟩) hHeld ?_
    rotate_left
    · (intro w' hSw; (try dsimp only at hSw); go_split_ands; go_simp; try with_reducible rfl)
    (try simp only [Act.put, List.setIfInBounds_toArray, List.set_cons_zero, List.set_cons_succ])
    refine upZ_only (i := 31) (o := ⟨some 5, _, _, _, _, _⟩) (by kernel_rfl) rfl rfl (fun K hK => ?_)
    go_simp
    refine hK.out _ _ (⟨(World.cell?_alloc_lt W _ ⟨bb, off + 1, none⟩ HBB.out).trans e1, (World.cell?_alloc_lt W _ ⟨bb, off + 2, none⟩ HBB.out).trans e2, (World.cell?_alloc_lt W _ ⟨bb, off + 3, none⟩ HBB.out).trans e3, (World.cell?_alloc_lt W _ ⟨bb, off + 4, none⟩ HBB.out).trans e4, (World.cell?_alloc_lt W _ ⟨bb, off + 5, none⟩ HBB.out).trans e5, (World.cell?_alloc_lt W _ ⟨bb, off + 6, none⟩ HBB.out).trans e6⟩) (fun hHeld => ?_)
    clear hK K
    (try simp only [Act.put, List.setIfInBounds_toArray, List.set_cons_zero, List.set_cons_succ])
    refine upZ_last (o := ⟨none, _, _, _, _, _⟩) (by kernel_rfl) rfl (by kernel_rfl) (fun K hK => ?_)
    clear hHeld
    go_simp
    refine hK.out _ _ ?_
    clear hK K
    (try simp only [Act.put, List.setIfInBounds_toArray, List.set_cons_zero, List.set_cons_succ])
    obtain ⟨W2, hW2⟩ : ∃ x, x = (W.alloc (.cells T0 38)).drew := ⟨_, rfl⟩
    have b2 : Below W.heap.size W W2 := by rw [hW2]; exact ((Below.refl W.heap.size W).alloc (Nat.le_refl _) _).drew
    have r5 : W2.heap[W.heap.size]? = some (.cells T0 38 (0, 0)) := by rw [hW2]; exact heap_alloc_new W _
    have z2 : W2.heap.size = W.heap.size + 1 := by rw [hW2]; show (W.alloc _).heap.size = _; simp
    have q0 := (b2.block w.heap.size (by have := HZ.out; omega)).trans r0
    rw [← hW2]
    obtain ⟨g5, hg5⟩ : ∃ g, g = W.heap.size := ⟨_, rfl⟩
    rw [← hg5] at r5 z2 ⊢
    have HB2 := hide (HB.out.trans (b2.mono HB.out.size))
    have HG5 : Hid (w.heap.size < g5) := hide (by have := HZ.out; omega)
    have HZ2 := hide z2
    have HR5 := hide (And.intro r5 q0)
    have HD2 : Hid (Byt W2 W2.heap.size (some ⟨bb, off, none⟩) b) := hide ((HBY.out.below b2).more b2.size)
    obtain ⟨A8, hA8⟩ : ∃ A, (if c = 8 then some (⟨bb, off, none⟩ : Addr) else some ⟨bb, off + 8, none⟩) = A := ⟨_, rfl⟩
    have hSub : Byt W2 W2.heap.size A8 d := by
      have h := HD2.out.sub 8 M c HLC.out
      rw [← HD.out, Option.map_some, add_none, hA8] at h
      exact h
    have hE9 : E8 - 8 = M := by have := HE8.out; omega
    have KO := ofS W2 W2.heap.size A8 d (c - 8) (by have := HDL.out; have := HM64.out; omega) hSub (Nat.le_refl _) (fun e => by rw [← hA8] at e; split at e <;> cases e)
    rw [HDL.out] at KO
    have KO := hide KO
    clear hHeld hW2 b2 z2 hg5 q0 r5 r0 e0 e1 e2 e3 e4 e5 e6 e7 o1 o2 o3 s1 s2 s3 y2 y3 y4 y5 y6 hge m1 m2 f1 g2 w0 w4 f4 w5 w6 hb3 hTs hTo hSub
    go_wp2_with fail
    refine KO.out.mono ?_
    rintro e w3 ⟨g, A', c', rfl, hrr, hl', hnl, hgg, b3⟩
    have hgg5 : g5 < g := by have := HZ2.out; omega
    obtain ⟨BB, hBB⟩ : ∃ B, B = W2.heap.size := ⟨_, rfl⟩
    rw [← hBB] at hrr
    have HI0 : Hid (PrI w w3 g5 g BB A' c' d OP Z oo pp vv none 0 0 d.length []) := hide ⟨hrr, by rw [List.length_nil, ← HT0.out]; exact (b3.block g5 (by have := HZ2.out; omega)).trans HR5.out.1, (b3.block w.heap.size (by have := HZ2.out; have := HG5.out; omega)).trans HR5.out.2, OgS.nil _ _ _, fun x hx => by simp at hx, Nat.zero_le _, by omega, HOP.out.symm, HB2.out.trans (b3.mono HB2.out.size), HG5.out, hgg5, by rw [hBB]; have := HZ2.out; omega⟩
    have HNL := hide hnl
    rw [← HDL.out] at hl'
    have HLL : Hid (d.length ≤ 140737488355328) := hide (by have := HDL.out; have := HM64.out; omega)
    have HGG := hide hgg5
    clear hrr hnl hgg b3 hBB hgg5 KO hA8 hE9
    dsimp only
    go_wp2
    go_loopw [7, 8, 9] (fun a _ _ wr => ∃ K n l Av cv, a = .bool (critD (l.map OpG.say)) ∧ Hid (PrI w wr g5 g BB A' c' d OP Z oo pp vv Av cv K n l)) (fun _ _ _ wr => d.length - kOfG wr g)
    case atStart => exact ⟨0, _, [], none, 0, rfl, HI0⟩
    case round =>
      obtain ⟨K, n, l, Av, cv, hcr, hI⟩ := hrel
      have hkof := rkOf hI.out.rr.rr
      have HKOF := hide hkof
      have hK0 := hI.out.rr.le
      have c1 := hI.out.rr.rr.c1
      obtain ⟨cr, hcrd⟩ : ∃ x, x = critD (l.map OpG.say) := ⟨_, rfl⟩
      rw [← hcrd] at hcr
      have HCR := hide hcrd
      subst hcr
      clear hkof hcrd
      by_cases hlt : K < d.length
      · have hgt : (K : Int) < (M : Int) := by have := HDL.out; omega
        obtain ⟨k1, n1, x1, q1, l1, b1, y1, z1⟩ := numQ_out (l := d) (k := K) (er := 0) (j := 2) (by decide) (by decide) hK0
        obtain ⟨k2, n2, x2, q2, l2, b2, y2, z2⟩ := numQ_out (l := d) (k := k1) (er := x1) (j := 1) (by decide) (by decide) l1
        obtain ⟨k3, n3, x3, q3, l3, b3, y3, z3⟩ := numQ_out (l := d) (k := k2) (er := x2) (j := 1) (by decide) (by decide) l2
        obtain ⟨S, hS⟩ : ∃ S, S = n3 % 32 := ⟨_, rfl⟩
        obtain ⟨S4, hS4⟩ : ∃ s, s = S * 4 := ⟨_, rfl⟩
        obtain ⟨k4, d4, x4, q4, l4, y4, z4, hd4⟩ := takeQ_out (l := d) (k := k3) (er := x3) (j := S4) l3
        have HALL : Hid (K + 4 + 4 * S ≤ d.length → x4 = 0 ∧ k4 = K + 4 + 4 * S ∧ n1 = atN d K 2 ∧ n2 = atN d (K + 2) 1 ∧ n3 = atN d (K + 3) 1 ∧ d4 = (d.drop (K + 4)).take (4 * S)) := hide (fun h => by
          obtain ⟨a1, a2, a3⟩ := y1 rfl (by omega)
          obtain ⟨a4, a5, a6⟩ := y2 a3 (by omega)
          obtain ⟨a7, a8, a9⟩ := y3 a6 (by omega)
          obtain ⟨c1, c2, c3⟩ := y4 a9 (by omega)
          refine ⟨c3, by omega, a2, by rw [a5, a1]; rfl, by rw [a8, a4, a1]; rfl, by rw [c2, a7, a4, a1, hS4]; congr 1; omega⟩)
        have HBAD : Hid (d.length < K + 4 + 4 * S → x4 ≠ 0 ∧ d.length < K + 4 + 4 * (atN d (K + 3) 1 % 32)) := hide (fun h => by
          by_cases h4 : d.length < K + 4
          · refine ⟨?_, by omega⟩
            by_cases h2 : d.length < K + 2
            · exact z4 (.inl (z3 (.inl (z2 (.inl (z1 (.inr h2)))))))
            · obtain ⟨a1, a2, a3⟩ := y1 rfl (by omega)
              by_cases h3 : d.length < K + 3
              · exact z4 (.inl (z3 (.inl (z2 (.inr (by omega))))))
              · obtain ⟨a4, a5, a6⟩ := y2 a3 (by omega)
                exact z4 (.inl (z3 (.inr (by omega))))
          · obtain ⟨a1, a2, a3⟩ := y1 rfl (by omega)
            obtain ⟨a4, a5, a6⟩ := y2 a3 (by omega)
            obtain ⟨a7, a8, a9⟩ := y3 a6 (by omega)
            have e3 : n3 = atN d (K + 3) 1 := by rw [a8, a4, a1]; rfl
            exact ⟨z4 (.inr (by omega)), by rw [← e3, ← hS]; exact h⟩)
        have v1 := wrap_i64q (n := n1) (by omega)
        have v2 := wrap_i64q (n := n2) (by omega)
        have m3 : (n3 : Int) % 32 = (S : Int) := by omega
        have v3 := wrap_i64q (n := S) (by omega)
        have u3 : IntKind.u64.wrap (S : Int) = (S : Int) := IntWalk.u64_in _ (by omega)
        have v4 : IntKind.i64.wrap ((S : Int) * 4) = (S4 : Int) := by rw [show (S : Int) * 4 = (S4 : Int) by omega]; exact IntWalk.i64_in _ (by omega)
        have HN3 : Hid (n3 < 256 ∧ S = n3 % 32 ∧ S4 = S * 4) := hide ⟨by omega, hS, hS4⟩
        have HQ := hide (And.intro q1 (And.intro q2 (And.intro q3 q4)))
        clear q1 q2 q3 q4 l1 l2 l3 l4 b1 b2 b3 y1 y2 y3 y4 z1 z2 z3 z4 hS hS4 hK0
        go_wp2_with fail
        refine (rnum wr 2 hI.out.rr HQ.out.1 hl' HLL.out).mono ?_
        rintro e w4 ⟨rfl, hR4, g4⟩
        have O4 := hide (hI.out.oth.ask g4)
        clear g4 c1
        dsimp only
        go_wp2_with fail
        refine (rnum w4 1 hR4 HQ.out.2.1 hl' HLL.out).mono ?_
        rintro e w5 ⟨rfl, hR5, g5'⟩
        have O5 := hide (O4.out.ask g5')
        have hbo := rbuilt_opt2 (n1 : Int) (n2 : Int)
        have hone : allOne #[Value.int .i64 (n1 : Int), Value.int .i64 (n2 : Int), Value.slice none 0 0] = true := by simp [allOne, Value.oneCell']
        clear g5' hR4 O4
        dsimp only
        go_wp2_with fail
        obtain ⟨W6, hW6, r6, z6, b6⟩ := alloc_tl w5 (.cells #[.int .i64 (n1 : Int), .int .i64 (n2 : Int), .slice none 0 0] 67)
        rw [hW6]
        obtain ⟨go, hgo⟩ : ∃ x, x = w5.heap.size := ⟨_, rfl⟩
        rw [← hgo] at r6 ⊢
        have hR6 := hR5.below b6
        have O6 := hide (O5.out.below b6)
        have hgg : g < go := by rw [hgo]; exact hR5.rr.lt
        have HG := hide (And.intro hgg (show go < W6.heap.size by omega))
        have HR6 := hide r6
        have HOW : Hid (∀ k, (Value.slice Av l.length cv).ownBlock = some k → k < go) := hide (fun k hk => by rw [hgo]; exact (O5.out.own hk).2)
        have HAL : Hid (∀ x ∈ l, 0 < x.d.length → ∀ a, x.a = some a → a.block < go) := hide (fun x hx hp a e => by rw [hgo]; exact O5.out.ob x hx hp a e)
        clear hW6 z6 b6 hR5 O5 hgo hgg r6
        refine (rnum W6 1 hR6 HQ.out.2.2.1 hl' HLL.out).mono ?_
        rintro e w7 ⟨rfl, hR7, g7⟩
        have O7 := hide (O6.out.ask g7)
        have r7 : w7.heap[go]? = some (.cells #[.int .i64 (n1 : Int), .int .i64 (n2 : Int), .slice none 0 0] 67 (0, 0)) := (g7.block go HG.out.2 (by have := HG.out.1; simp; omega)).trans HR6.out
        have HR7 := hide r7
        have HG7 : Hid (go < w7.heap.size) := hide (Nat.lt_of_lt_of_le HG.out.2 g7.size)
        clear g7 hR6 O6 r7 hone
        dsimp only
        go_wp2_with fail
        refine (rtake w7 (S4 : Int) hR7 HQ.out.2.2.2 hl' HLL.out HNL.out).mono ?_
        rintro e w8 ⟨Ad, cd, rfl, hR8, g8, hcd, hbd, hnd, had⟩
        have O8 := hide (O7.out.ask g8)
        have r8 : w8.heap[go]? = some (.cells #[.int .i64 (n1 : Int), .int .i64 (n2 : Int), .slice none 0 0] 67 (0, 0)) := (g8.block go HG7.out (by have := HG.out.1; simp; omega)).trans HR7.out
        have c8 := (opt_cells r8).2.2
        have f8 := frozen_of_row w8 go 2 _ _ r8
        have HR8 := hide r8
        have HD4 := hide (And.intro hbd (And.intro hcd (And.intro hnd had)))
        obtain ⟨nd, hnd'⟩ : ∃ n, n = d4.length := ⟨_, rfl⟩
        rw [← hnd']
        have HND := hide hnd'
        clear g8 r8 hcd hbd hnd had hR7 O7 HR7 hnd' v4
        dsimp only
        go_upto_region 17 with (fail)
        obtain ⟨W9, hW9⟩ : ∃ W, W = w8.setCell ⟨go, 2, none⟩ (.slice Ad nd cd) := ⟨_, rfl⟩
        rw [← hW9]
        have gs9 : w8.grownBy W9 (some go) := by rw [hW9]; exact grown_set w8 go 2 _
        have r9 : W9.heap[go]? = some (.cells #[.int .i64 (n1 : Int), .int .i64 (n2 : Int), .slice Ad nd cd] 67 (0, 0)) := by rw [hW9]; exact heap_setCell_same w8 go 2 _ _ _ HR8.out
        have hgg := HG.out.1
        have hR9 := hR8.growG gs9 (fun i e => by cases e; exact hgg)
        have O9 := hide (O8.out.behind gs9 hgg HOW.out HAL.out)
        have hsp : spanQ Try.prog 67 W9 (.pointer (some ⟨go, 0, none⟩)) = some #[.int .i64 (n1 : Int), .int .i64 (n2 : Int), .slice Ad nd cd] := by rw [spanQ_ptr, rs_roptG, r9]; rfl
        have HSP := hide hsp
        have HBY4 : Hid (Byt W9 W9.heap.size Ad d4) := hide ((HD4.out.1.grown gs9 (fun hp a e e2 => by have h1 := HD4.out.2.2.2 a e; have h2 := HG7.out; have := Option.some.inj e2; omega)).more gs9.size)
        have c9 := hR9.rr.c2
        have t9 := (opt_cells r9).2.1
        have bx9 : W9.cell? ⟨g5, 3, none⟩ = some (.slice Av l.length cv) := cell_of_row W9 g5 3 _ _ (0, 0) O9.out.box
        have fx9 := frozen_of_row W9 g5 3 _ _ O9.out.box
        have HR9 := hide hR9
        clear hW9 gs9 r9 hgg hR8 hR9 c8 f8 HR8 O8 hsp
        by_cases hfit : K + 4 + 4 * S ≤ d.length
        · obtain ⟨hx4, hk4, hn1, hn2, hn3, hd4'⟩ := HALL.out hfit
          have hx4b : (x4 != 0) = false := by rw [hx4]; rfl
          by_cases h32 : n3 < 32
          · have hge32 : ¬ (n3 : Int) ≥ 32 := by omega
            obtain ⟨mm, hmm, hnx⟩ := optsP_next (acc := l.map OpG.say) hlt hI.out.fuel (by rw [← hn3, ← HN3.out.2.1]; exact hfit) (by rw [← hn3]; exact h32)
            rw [← hn1, ← hn2, ← hn3, ← HN3.out.2.1, ← hd4'] at hnx
            have HRE := hide hI.out.res
            rw [hnx] at HRE
            have HMM := hide hmm
            have HO2 : Hid ((W9.alloc (.cells #[.int .i64 (n1 : Int), .int .i64 (n2 : Int), .slice Ad nd cd] 67)).ownsRow (g + 1) 67 3 (.slice Av l.length cv) l.length (ogsC l)) := hide (World.ownsRow.alloc O9.out.og.row _)
            have HLIT : Hid ((W9.alloc (.cells #[.int .i64 (n1 : Int), .int .i64 (n2 : Int), .slice Ad nd cd] 67)).heap[W9.heap.size]? = some (.cells #[.int .i64 (n1 : Int), .int .i64 (n2 : Int), .slice Ad nd cd] 67 (0, 0))) := hide (heap_alloc_new W9 _)
            have hlk := hI.out.len
            have hbn' := HM64.out
            have hdl' := HDL.out
            have HLK : Hid (l.length ≤ 300) := hide (by omega)
            have HM1 : Hid (l.length + 1 ≤ maxLen) := hide (by unfold maxLen; omega)
            have HM2 : Hid ((l.length + 1) * 40 ≤ 140737488355328) := hide (by omega)
            have HM3 : Hid (g + 1 ≤ (W9.alloc (.cells #[.int .i64 (n1 : Int), .int .i64 (n2 : Int), .slice Ad nd cd] 67)).heap.size) := hide (by have := HR9.out.rr.lt; simp; omega)
            have HM4 : Hid ((W9.alloc (.cells #[.int .i64 (n1 : Int), .int .i64 (n2 : Int), .slice Ad nd cd] 67)).heap.size = W9.heap.size + 1) := hide (by simp)
            have HX4 := hide hx4
            have HFIT := hide (And.intro hk4 (And.intro hfit hlt))
            obtain ⟨ge, hge⟩ : ∃ x, x = decide ((n2 : Int) ≥ 128) := ⟨_, rfl⟩
            have hge' := hge.symm
            have HGE : Hid (ge = decide (128 ≤ (n2 : Int))) := hide hge
            clear hx4 hk4 hn1 hn2 hn3 hd4' hfit h32 hlt hgt hmm hnx hlk hbn' hdl' hge
            have hcr2 : cr = true ∨ cr = false := by cases cr <;> simp
            rcases hcr2 with rfl | rfl
            all_goals (
              go_upto_region 22 with (fail)
              refine wp_region_lit ?_
              refine wpList_valG rfl (.pointer (some ⟨g5, 3, none⟩)) (by go_simp) ?_
              refine wpList_valG rfl (.slice Av l.length cv) (by go_simp) ?_
              refine wpList_spanG rfl 67 (.tmp 8) rfl _ rfl HSP.out ?_
              refine wpList_bsG rfl 36 1 (.tmp 117) rfl _ rfl (bs_roptG W9 _ _ _ _ _) ?_
              refine wpList_append_lies _ (by rfl) (.tmp 116) (.tmp 118) 36 (by rfl) (g + 1) 67 i0 _ 3 40 Try.underlying36 hi hz0' hz1' hz2' rfl (by omega) (.slice Av l.length cv) l.length (ogsC l) (by rfl) HO2.out ⟨W9.heap.size, 0, none⟩ 1 1 [.int .i64 (n1 : Int), .int .i64 (n2 : Int), .slice Ad nd cd] (by rfl) (by rfl) (World.news_of_block (cs := #[.int .i64 (n1 : Int), .int .i64 (n2 : Int), .slice Ad nd cd]) (t := 67) (fr := (0, 0)) HLIT.out) (by simp [Value.oneCell']) (by omega) HM1.out HM2.out HM3.out (W9.heap.size + 1) HM4.out ?_
              intro gg cap w10 hown10 hg10 hat10 hlt10
              have HO10 := hide hown10
              have HG10 := hide ((World.grownBy_alloc W9 (.cells #[.int .i64 (n1 : Int), .int .i64 (n2 : Int), .slice Ad nd cd] 67) _).trans hg10)
              have HA10 := hide hat10
              clear hown10 hg10 hat10 hlt10
              have b10 : w10.heap[g5]? = _ := (HG10.out.block g5 (Array.getElem?_eq_some_iff.1 O9.out.box).1 (fun e => by have := (O9.out.own e.symm).1; have := HGG.out; omega)).trans O9.out.box
              have bx10 : w10.cell? ⟨g5, 3, none⟩ = some (.slice Av l.length cv) := cell_of_row w10 g5 3 _ _ (0, 0) b10
              have fx10 := frozen_of_row w10 g5 3 _ _ b10
              clear b10 bx9 fx9
              go_wp2_with fail
              have hP := O9.out.snoc HG10.out (x := ⟨n1, n2, Ad, cd, d4⟩) (by unfold ogC; rw [← HND.out]; exact HO10.out) (by
                rcases HA10.out with h1 | h1
                · exact .inl h1
                · exact .inr (by show W9.heap.size ≤ gg; omega)) ⟨HBY4.out, HD4.out.2.2.1, HD4.out.2.1⟩ (fun hp a e => ⟨by have h1 := HD4.out.2.2.2 a e; have h2 := HG7.out; have h3 := HG.out.1; show g < a.block; omega, fun e2 => by have h1 := HD4.out.2.2.2 a e; have h2 := HOW.out _ e2; have h3 := HG7.out; omega⟩)
              have hrr10 := (HR9.out.growG HG10.out (fun i e => (O9.out.own e).1)).keep (grown_set w10 g5 3 (.slice (some ⟨gg, 0, none⟩) (l.length + 1) cap)) hI.out.lo3 HGG.out
              rw [HX4.out] at hrr10
              have hka := HFIT.out.1
              have hkb := HFIT.out.2.1
              have hmm := HMM.out
              have hfu := hI.out.fuel
              have hle := hI.out.len
              have hkc := HFIT.out.2.2
              refine ⟨⟨k4, mm, l ++ [⟨n1, n2, Ad, cd, d4⟩], some ⟨gg, 0, none⟩, cap, ?_, hide ⟨hrr10, hP.box, hP.zr, hP.og, hP.far, by rw [List.length_append]; simp; omega, by omega, ?_, hP.bel, hP.lo, hP.lo2, hI.out.lo3⟩⟩, ?_⟩
              · rw [List.map_append, List.map_cons, List.map_nil, crit_snoc, ← HCR.out]
                first | rfl | (rw [Bool.false_or]; exact congrArg Value.bool HGE.out) | (rw [Bool.false_or]; show _ = Value.bool (decide (128 ≤ (n2 : Int))); rw [← HGE.out])
              · rw [hka, List.map_append]; exact HRE.out
              · rw [rkOf hrr10.rr, HKOF.out]; omega)
          · have hge32 : (n3 : Int) ≥ 32 := by omega
            have HE : Hid (R = (zT, 11)) := hide (by
              have h1 := optsP_form (acc := l.map OpG.say) hlt hI.out.fuel (by rw [← hn3, ← HN3.out.2.1]; exact hfit) (by rw [← hn3]; omega)
              have h2 : OP = ([], 11) := hI.out.res.symm.trans h1
              rw [HRR.out, h2, if_pos (by decide)])
            have zr9 := O9.out.zr
            clear hx4 hk4 hn1 hn2 hn3 hd4' hfit h32 hlt hgt
            go_wp2_with fail
            refine bodyPost_ret (results_cell_tmp (fn := Try.f17) Try.results17 _ _ w.heap.size 38 Z (0, 0) _ rfl (setRow_heap W9 w.heap.size Z Z _ _ zr9) Try.underlying38 rfl (by rw [hZs]; exact info_rtunG)) rfl ?_
            exact paF_err HZE.out HE.out (below_setRow O9.out.bel (Nat.le_refl _) _)
        · obtain ⟨hx4, hsh⟩ := HBAD.out (by omega)
          have hx4b : (x4 != 0) = true := by simpa using hx4
          have HE : Hid (R = (zT, 10)) := hide (by
            have h2 : OP = ([], 10) := hI.out.res.symm.trans (optsP_short (acc := l.map OpG.say) hlt hI.out.fuel hsh)
            rw [HRR.out, h2, if_pos (by decide)])
          have zr9 := O9.out.zr
          clear hx4 hsh hfit hlt hgt
          go_wp2_with fail
          refine bodyPost_ret (results_cell_tmp (fn := Try.f17) Try.results17 _ _ w.heap.size 38 Z (0, 0) _ rfl (setRow_heap W9 w.heap.size Z Z _ _ zr9) Try.underlying38 rfl (by rw [hZs]; exact info_rtunG)) rfl ?_
          exact paF_err HZE.out HE.out (below_setRow O9.out.bel (Nat.le_refl _) _)
      · have hng : ¬ (K : Int) < (M : Int) := by have := HDL.out; omega
        have hOP : OP = (l.map OpG.say, 0) := hI.out.res.symm.trans (optsP_end (by omega))
        have hRR := HRR.out
        rw [hOP, if_neg (by simp)] at hRR
        simp only at hRR
        rw [← HCR.out] at hRR
        have e1 := HC1.out wr hI.out.bel
        obtain ⟨Q1, hQ1⟩ : ∃ q, q = N1 / 64 := ⟨_, rfl⟩
        obtain ⟨P1, hP1⟩ : ∃ q, q = Q1 % 2 := ⟨_, rfl⟩
        have hN1b := HV.out.2.1
        have m1 : (N1 : Int) / 64 = (Q1 : Int) := by omega
        have m2 : IntKind.u8.wrap (Q1 : Int) = (Q1 : Int) := IntWalk.u8_in _ (by omega)
        have m3 : (Q1 : Int) % 2 = (P1 : Int) := by omega
        have m4 : IntKind.u8.wrap (P1 : Int) = (P1 : Int) := IntWalk.u8_in _ (by omega)
        obtain ⟨fb, hfb⟩ : ∃ f, f = decide (N1 / 64 % 2 = 1) := ⟨_, rfl⟩
        have hf : ((P1 : Int) == 1) = fb := by
          rw [hfb, ← hQ1, ← hP1]
          have : P1 = 0 ∨ P1 = 1 := by omega
          rcases this with h | h <;> rw [h] <;> rfl
        rw [← hfb] at hRR
        have HRR4 := hide hRR
        clear hOP hRR hQ1 hP1 hN1b hfb hlt
        by_cases hcf : cr = fb
        · have hRR := HRR4.out
          rw [if_neg (by simpa using hcf)] at hRR
          have HRR5 := hide hRR
          have c4 : wr.cell? ⟨g5, 4, none⟩ = some (.slice none 0 0) := cell_of_row wr g5 4 _ _ (0, 0) hI.out.box
          subst hcf
          obtain ⟨A9, hA9⟩ : ∃ A, (if c = E8 then some (⟨bb, off, none⟩ : Addr) else some ⟨bb, off + E8, none⟩) = A := ⟨_, rfl⟩
          obtain ⟨nI, hnI⟩ : ∃ n, b.length - E8 = n := ⟨_, rfl⟩
          obtain ⟨DI, hDI⟩ : ∃ D, D = b.drop (8 + M) := ⟨_, rfl⟩
          rw [← hDI] at HRR5
          have hDl : DI.length = nI := by rw [hDI, List.length_drop, ← HE8.out]; exact hnI
          have hs7 : (E8 : Int) ≤ (b.length : Int) := by have := HE8.out; have := HL8.out; have := HM64.out; have := HDL.out; have := congrArg List.length HD.out; simp at this; omega
          have HSUB : Hid (∀ wx : World, Below w.heap.size w wx → Byt wx w.heap.size A9 DI) := hide (fun wx hbx => by
            have h := (HBW.out.below hbx).sub E8 nI c HLC.out
            rw [List.take_of_length_le (by rw [List.length_drop]; omega), Option.map_some, add_none, hA9, HE8.out, ← hDI] at h
            exact h)
          have HA9N : Hid (A9 = none → c - E8 = 0) := hide (fun e => by rw [← hA9] at e; split at e <;> cases e)
          have HDI := hide hDl
          have HIB := hide hI.out.bel
          clear hRR hDI hDl
          have hcr2 : cr = true ∨ cr = false := by cases cr <;> simp
          rcases hcr2 with rfl | rfl
          all_goals (
            go_upto_region 25 with (fail)
            go_still_tail 6, (by kernel_rfl)
            change wpList _ _ _ _ _ wr.drew
            obtain ⟨wd, hwd⟩ : ∃ W2, W2 = wr.drew := ⟨_, rfl⟩
            have bd : Below wr.heap.size wr wd := by rw [hwd]; exact (Below.refl wr.heap.size wr).drew
            rw [← hwd]
            have HP := hide (hI.out.oth.below bd)
            have HSB := hide (HSUB.out wd HP.out.bel)
            clear hwd bd c4 c1 e1
            refine wpList_app_bytes rfl (.tmp 131) (.tmp 135) rfl wd.heap.size (.slice none 0 0) [] DI w.heap.size (c - E8) A9 rfl (by rw [HDI.out]; rfl) (OwnB.nil _ _) HSB.out HA9N.out (by have := HDI.out; have := HN.out; simp; omega) (Nat.le_refl _) ?_
            intro v5 w5 hown5 hgrow5 hat5
            obtain ⟨AI, cI, rfl, hcI, hbI, hnI', haI⟩ := hown5.shape
            rw [List.nil_append] at hcI hbI ⊢
            have b5 : Below wd.heap.size wd w5 := (Below.refl _ _).grown hgrow5 (Nat.le_refl _) (fun k hk => by simp [Value.ownBlock] at hk)
            have P5 := hide (HP.out.below b5)
            have c4' : w5.cell? ⟨g5, 4, none⟩ = some (.slice none 0 0) := cell_of_row w5 g5 4 _ _ (0, 0) P5.out.box
            have f4' := frozen_of_row w5 g5 4 _ _ P5.out.box
            obtain ⟨nD, hnD⟩ : ∃ n, n = DI.length := ⟨_, rfl⟩
            rw [← hnD]
            have HI := hide (And.intro hcI (And.intro hbI (And.intro hnI' (And.intro haI hnD))))
            have HG5W : Hid (g5 < wd.heap.size) := hide (Array.getElem?_eq_some_iff.1 HP.out.box).1
            have HWZ : Hid (w.heap.size < wd.heap.size) := hide (Array.getElem?_eq_some_iff.1 HP.out.zr).1
            clear hown5 hgrow5 hat5 hcI hbI hnI' haI hnD b5
            simp only [Act.put, List.setIfInBounds_toArray, List.set_cons_succ, List.set_cons_zero]
            go_upto_region 26 with (fail)
            obtain ⟨W6, hW6⟩ : ∃ W, W = w5.setCell ⟨g5, 4, none⟩ (.slice AI nD cI) := ⟨_, rfl⟩
            rw [← hW6]
            have gs6 : w5.grownBy W6 (some g5) := by rw [hW6]; exact grown_set w5 g5 4 _
            have r6 : W6.heap[g5]? = some (.cells (tunA oo pp vv Av l.length cv AI nD cI) 38 (0, 0)) := by rw [hW6]; exact heap_setCell_same w5 g5 4 _ _ _ P5.out.box
            have hl5 := P5.out.lo
            have hl6 := P5.out.lo2
            have zr6 := (gs6.block _ (Array.getElem?_eq_some_iff.1 P5.out.zr).1 (by simp; omega)).trans P5.out.zr
            obtain ⟨Y, hY⟩ : ∃ Y, Y = tunA oo pp vv Av l.length cv AI nD cI := ⟨_, rfl⟩
            rw [← hY] at r6
            have hYs : Y.size = 5 := by rw [hY]; rfl
            have hY0 : Y.extract 0 5 = Y := by rw [hY]; rfl
            have hYo : allOne Y = true := by rw [hY]; exact tunA_one _ _ _ _ _ _ _ _ _
            have bel6 : Below w.heap.size w W6 := P5.out.bel.grown gs6 P5.out.bel.size (fun k e => by cases e; omega)
            have HF : Hid (PaF w R (.returned (.tuple #[.agg Y, .int .i64 0])) (W6.setRow w.heap.size Y)) := hide (by
              have gs7 := grown_rowT W6 w.heap.size Y
              rw [HRR5.out]
              have og7 := (P5.out.og.box gs6 (by omega) (fun x hx hp a e e2 => by have := P5.out.far x hx hp a e; omega)).box gs7 (by omega) (fun x hx hp a e e2 => by have := P5.out.far x hx hp a e; omega)
              obtain ⟨A7, c7, e7, hle7, hrd7⟩ := og7.rd
              cases e7
              have hb1 := HI.out.2.1.grown gs6 (fun hp a e e2 => by have := (HI.out.2.2.2.1 a e).1; have := HG5W.out; have := Option.some.inj e2; omega)
              have hb2 := hb1.grown gs7 (fun hp a e e2 => by have := (HI.out.2.2.2.1 a e).1; have := HWZ.out; have := Option.some.inj e2; omega)
              have hw1 := HWZ.out
              exact ⟨Y, rfl, ⟨Av, cv, l, AI, cI, by rw [hY, HI.out.2.2.2.2], ⟨rfl, hrd7, og7.ob, hle7, hb2.more (Nat.le_trans gs6.size gs7.size), HI.out.2.2.1, HI.out.1⟩, fun a e => by
                rcases og7.row.2 with ⟨h1, -⟩ | ⟨gg, cap, cur, h1, h2, -⟩
                · rw [e] at h1; cases h1
                · rw [e] at h1; cases h1; show w.heap.size ≤ gg; omega, fun x hx hp a e => by have := P5.out.far x hx hp a e; omega, fun hp a e => by have := (HI.out.2.2.2.1 a e).1; omega⟩, below_setRow bel6 (Nat.le_refl _) _⟩)
            clear hY hW6 gs6 c4' f4' bel6 hl5 hl6
            go_wp2_with fail
            refine bodyPost_ret (results_cell_tmp (fn := Try.f17) Try.results17 _ _ w.heap.size 38 Y (0, 0) _ rfl (setRow_heap W6 w.heap.size Z Y _ _ zr6) Try.underlying38 rfl (by rw [hYs]; exact info_rtunG)) rfl ?_
            exact HF.out)
        · have HE := hide (show R = (zT, 11) by rw [HRR4.out, if_pos (by simpa using hcf)])
          have zr9 := hI.out.zr
          have hcc : (cr = true ∧ fb = false) ∨ (cr = false ∧ fb = true) := by cases cr <;> cases fb <;> simp at hcf ⊢
          clear hcf HRR4
          rcases hcc with ⟨rfl, rfl⟩ | ⟨rfl, rfl⟩
          all_goals (
            go_wp2_with fail
            refine bodyPost_ret (results_cell_tmp (fn := Try.f17) Try.results17 _ _ w.heap.size 38 Z (0, 0) _ rfl (setRow_heap wr w.heap.size Z Z _ _ zr9) Try.underlying38 rfl (by rw [hZs]; exact info_rtunG)) rfl ?_
            exact paF_err HZE.out HE.out (below_setRow hI.out.bel (Nat.le_refl _) _))
end Go.Proofs.Ytdlilokmfekndaa

end
section
/-
  The walks of Unwrap, the program's and the document's own: a frame's way and its tunnel.
-/
namespace Go.Proofs.Ytdlilokmfekndaa
open Go.RowKit
set_option maxRecDepth 100000
set_option linter.unusedVariables false
set_option linter.unusedSimpArgs false
theorem info_gpath : (Try.prog.info? 28).map (·.size) = some 37 := by kernel_rfl
theorem rs_gpath : rowSize Try.prog 28 = some 37 := by kernel_rfl
theorem rs_gwpath : rowSize Try.prog 35 = some 37 := by kernel_rfl
attribute [local go_sem ↓] exec_span exec_put exec_build heap_alloc_new heap_old heap_alloc_drew
attribute [local go_sem] spanQ_ptr spanC_some heap_of_drew heap_of_drewN rs_arr rs_ad rs_ip rs_rip rs_seg rs_rseg rs_tunG rs_rtunG rs_gpath rs_gwpath putAt_ptr putOk_ptr oldOk_some World.setRow_alloc_new setRow_drew

theorem results_cells_tmp {P : Program} {fn : Func} {p p2 q : Tmp} {ty ty2 : TypeId} (h : fn.results = #[.cell p ty, .cell p2 ty2, .tmp q]) (tmps : Array Value) (w : World) (g : Nat) (t : TypeId) (cs : Array Value) (fr : Nat × Nat) (d : TypeDesc)
    (hp : tmps.getD p undef = .pointer (some ⟨g, 0, none⟩)) (hg : w.heap[g]? = some (.cells cs t fr))
    (hu : P.underlying ty = some d) (hd : (match d with | .struct _ | .array _ _ => true | _ => false) = true) (hi : (P.info? ty).map (·.size) = some cs.size)
    (g2 : Nat) (t2 : TypeId) (cs2 : Array Value) (fr2 : Nat × Nat) (d2 : TypeDesc)
    (hp2 : tmps.getD p2 undef = .pointer (some ⟨g2, 0, none⟩)) (hg2 : w.heap[g2]? = some (.cells cs2 t2 fr2))
    (hu2 : P.underlying ty2 = some d2) (hd2 : (match d2 with | .struct _ | .array _ _ => true | _ => false) = true) (hi2 : (P.info? ty2).map (·.size) = some cs2.size) :
    (results fn tmps).run P w = .ok (.tuple #[.agg cs, .agg cs2, tmps.getD q undef]) w := by
  have hp' : tmps[p]?.getD undef = .pointer (some ⟨g, 0, none⟩) := by simpa using hp
  have hp2' : tmps[p2]?.getD undef = .pointer (some ⟨g2, 0, none⟩) := by simpa using hp2
  simp [results, h, hp', hp2', asAddr, run_loadVar_row w g t ty cs fr d hg hu hd hi, run_loadVar_row w g2 t2 ty2 cs2 fr2 d2 hg2 hu2 hd2 hi2]
/-- no way. -/
def zP : PaG := ⟨false, List.replicate 16 0, false, List.replicate 16 0, 0, 0, 0⟩
theorem zP_ok : PaV (paL zP).toArray zP := ⟨rfl, by simp [zP], by simp [zP]⟩
theorem built_gpath0 : Try.prog.built 28 [] = some (paL zP).toArray := by kernel_rfl
theorem built_gwpath0 : Try.prog.built 35 [] = some (paL zP).toArray := by kernel_rfl
theorem built_gpA (s d : Bool) (a t : Int) (b0 b1 b2 b3 b4 b5 b6 b7 b8 b9 b10 b11 b12 b13 b14 b15 c0 c1 c2 c3 c4 c5 c6 c7 c8 c9 c10 c11 c12 c13 c14 c15 : UInt8) :
    Try.prog.built 28 [(0, .agg (adL s [b0, b1, b2, b3, b4, b5, b6, b7, b8, b9, b10, b11, b12, b13, b14, b15]).toArray), (1, .agg (adL d [c0, c1, c2, c3, c4, c5, c6, c7, c8, c9, c10, c11, c12, c13, c14, c15]).toArray), (2, .int .i64 a), (3, .int .i64 t)] = some (paL ⟨s, [b0, b1, b2, b3, b4, b5, b6, b7, b8, b9, b10, b11, b12, b13, b14, b15], d, [c0, c1, c2, c3, c4, c5, c6, c7, c8, c9, c10, c11, c12, c13, c14, c15], a, t, 0⟩).toArray := by kernel_rfl
theorem built_gwpA (s d : Bool) (a t : Int) (b0 b1 b2 b3 b4 b5 b6 b7 b8 b9 b10 b11 b12 b13 b14 b15 c0 c1 c2 c3 c4 c5 c6 c7 c8 c9 c10 c11 c12 c13 c14 c15 : UInt8) :
    Try.prog.built 35 [(0, .agg (adL s [b0, b1, b2, b3, b4, b5, b6, b7, b8, b9, b10, b11, b12, b13, b14, b15]).toArray), (1, .agg (adL d [c0, c1, c2, c3, c4, c5, c6, c7, c8, c9, c10, c11, c12, c13, c14, c15]).toArray), (2, .int .i64 a), (3, .int .i64 t)] = some (paL ⟨s, [b0, b1, b2, b3, b4, b5, b6, b7, b8, b9, b10, b11, b12, b13, b14, b15], d, [c0, c1, c2, c3, c4, c5, c6, c7, c8, c9, c10, c11, c12, c13, c14, c15], a, t, 0⟩).toArray := by kernel_rfl
theorem built_gpG (s d : Bool) (sb db : List UInt8) (a t : Int) (ls : sb.length = 16) (ld : db.length = 16) : Try.prog.built 28 [(0, .agg (adL s sb).toArray), (1, .agg (adL d db).toArray), (2, .int .i64 a), (3, .int .i64 t)] = some (paL ⟨s, sb, d, db, a, t, 0⟩).toArray := by
  match sb, db, ls, ld with
  | [_, _, _, _, _, _, _, _, _, _, _, _, _, _, _, _], [_, _, _, _, _, _, _, _, _, _, _, _, _, _, _, _], _, _ => exact built_gpA _ _ _ _ _ _ _ _ _ _ _ _ _ _ _ _ _ _ _ _ _ _ _ _ _ _ _ _ _ _ _ _ _ _ _ _
theorem built_gwpG (s d : Bool) (sb db : List UInt8) (a t : Int) (ls : sb.length = 16) (ld : db.length = 16) : Try.prog.built 35 [(0, .agg (adL s sb).toArray), (1, .agg (adL d db).toArray), (2, .int .i64 a), (3, .int .i64 t)] = some (paL ⟨s, sb, d, db, a, t, 0⟩).toArray := by
  match sb, db, ls, ld with
  | [_, _, _, _, _, _, _, _, _, _, _, _, _, _, _, _], [_, _, _, _, _, _, _, _, _, _, _, _, _, _, _, _], _, _ => exact built_gwpA _ _ _ _ _ _ _ _ _ _ _ _ _ _ _ _ _ _ _ _ _ _ _ _ _ _ _ _ _ _ _ _ _ _ _ _
/-- what is within a frame, as bytes; the frame's way. -/
def unwD (l : List UInt8) : List UInt8 := datS (pkH l) (pkD l)
def unwP (l : List UInt8) : PaG := ⟨(pkH l).sv, (pkH l).sb, (pkH l).dv, (pkH l).db, (seenG l).a, (pkH l).ttl, 0⟩
/-- what bytes are as a frame, or what is wrong with them. -/
def unwG (l : List UInt8) : PaG × TuD × Int :=
  if seenE l ≠ 0 then (zP, zT, seenE l)
  else if (seenG l).p ≠ 17 ∨ (seenG l).b ≠ 6081 then (zP, zT, 14)
  else if (parD (unwD l)).2 ≠ 0 then (zP, zT, (parD (unwD l)).2)
  else (unwP l, (parD (unwD l)).1, 0)
def UnR (w : World) (R : PaG × TuD × Int) (e : Ending) (w' : World) : Prop := ∃ P Y, e = .returned (.tuple #[.agg P, .agg Y, .int .i64 R.2.2]) ∧ PaV P R.1 ∧ TuF w.heap.size w' Y R.2.1 ∧ Below w.heap.size w w'
theorem unR_err {w w' : World} {R : PaG × TuD × Int} {E : Int} {ZP ZT : Array Value} (hP : ZP = (paL zP).toArray) (hT : ZT = tunA false 0 0 none 0 0 none 0 0) (hR : R = (zP, zT, E)) (hb : Below w.heap.size w w') : UnR w R (.returned (.tuple #[.agg ZP, .agg ZT, .int .i64 E])) w' := by
  subst hR hP hT; exact ⟨_, _, rfl, zP_ok, tuF_zero _ _, hb⟩
theorem gotS_sameG (h : Ip) (D : List UInt8) (ao ad : Option Addr) (co cd : Nat) : (gotS h D ao co ad cd).p = (gotS h D none 0 none 0).p ∧ (gotS h D ao co ad cd).ad = ad ∧ (gotS h D ao co ad cd).cd = cd ∧ (gotS h D ao co ad cd).nd = (datS h D).length := by
  unfold gotS datS hdS
  split <;> exact ⟨rfl, rfl, rfl, by rw [List.length_drop]; rfl⟩
theorem datS_p {h h' : Ip} (D : List UInt8) (e : h.p = h'.p) : datS h D = datS h' D := by unfold datS hdS; rw [e]
theorem datS_le (h : Ip) (D : List UInt8) : (datS h D).length ≤ D.length := by unfold datS; rw [List.length_drop]; omega
theorem pkD_le (l : List UInt8) : (pkD l).length ≤ l.length := by unfold pkD; split <;> (rw [List.length_drop]; omega)
theorem TuF.le {B B' : Nat} {w : World} {X : Array Value} {T : TuD} (h : TuF B w X T) (hb : B' ≤ B) : TuF B' w X T := by
  obtain ⟨A, c, l, I, k, e, hp, h1, h2, h3⟩ := h
  exact ⟨A, c, l, I, k, e, hp, fun a e => Nat.le_trans hb (h1 a e), fun x hx hl a e => Nat.le_trans hb (h2 x hx hl a e), fun hl a e => Nat.le_trans hb (h3 hl a e)⟩
theorem PaF.inv {w w' : World} {R : TuD × Int} {e : Ending} (h : PaF w R e w') : ∃ Y, e = .returned (.tuple #[.agg Y, .int .i64 R.2]) ∧ TuF w.heap.size w' Y R.1 ∧ Below w.heap.size w w' ∧ Y.size = 5 ∧ allOne Y = true ∧ Y.extract 0 5 = Y := by
  obtain ⟨Y, h1, h2, h3⟩ := h
  obtain ⟨A, c, l, I, k, hY, -⟩ := id h2
  exact ⟨Y, h1, h2, h3, by rw [hY]; rfl, by rw [hY]; exact tunA_one _ _ _ _ _ _ _ _ _, by rw [hY]; rfl⟩
set_option maxHeartbeats 8000000 in
theorem unwrapG_any (w : World) (B : Nat) (A : Option Addr) (l : List UInt8) (c : Nat) (hlc : l.length ≤ c) (hn : l.length ≤ 140737488351232) (hb : Byt w B A l) (hB : B ≤ w.heap.size) :
    Calls Try.prog 5 #[.slice A l.length c] w (UnR w (unwG l)) := by
  obtain ⟨R, hR⟩ : ∃ R, R = unwG l := ⟨_, rfl⟩
  rw [← hR]
  have HR := hide hR
  obtain ⟨ZP, hZP⟩ : ∃ Z, Z = (paL zP).toArray := ⟨_, rfl⟩
  obtain ⟨ZT, hZT⟩ : ∃ Z, Z = tunA false 0 0 none 0 0 none 0 0 := ⟨_, rfl⟩
  have hbp := built_gpath0
  have hbt := built_tun0
  rw [← hZP] at hbp
  rw [← hZT] at hbt
  have hZPs : ZP.size = 37 := by rw [hZP]; exact zP_ok.size
  have hZPo : allOne ZP = true := by rw [hZP]; exact zP_ok.one
  have hZTs : ZT.size = 5 := by rw [hZT]; rfl
  have hZTo : allOne ZT = true := by rw [hZT]; exact tunA_one _ _ _ _ _ _ _ _ _
  obtain ⟨W0, hW0, r0, z0, b0⟩ := alloc_tl w (.cells ZP 28)
  obtain ⟨W, hW, r1, z1, b1⟩ := alloc_tl W0 (.cells ZT 31)
  rw [z0] at r1
  have r0 := (b1.block w.heap.size (by omega)).trans r0
  have hbW : Below w.heap.size w W := b0.trans (b1.mono (by omega))
  have hz : W.heap.size = w.heap.size + 2 := by omega
  have HZP := hide hZP
  have HZT := hide hZT
  rw [hZP] at hW0
  rw [hZT] at hW
  have HW := hide (And.intro hW0 hW)
  have KP := hide (parse_any W W.heap.size A l c hlc (by omega) ((hb.below (hbW.mono hB)).more (Nat.le_trans hB hbW.size)) (Nat.le_refl _))
  have HKZ := hide (fun (w1 : World) (b : Below W.heap.size W w1) => (⟨(b.block w.heap.size (by omega)).trans r0, (b.block (w.heap.size + 1) (by omega)).trans r1⟩ : w1.heap[w.heap.size]? = some (.cells ZP 28 (0, 0)) ∧ w1.heap[w.heap.size + 1]? = some (.cells ZT 31 (0, 0))))
  have HB := hide hbW
  have HZ := hide hz
  have HN := hide hn
  have HL := hide hlc
  clear hZP hZT hW hW0 b0 b1 hbW hz hb hB r0 r1 z0 z1 hR hn hlc
  go_enter Try.func5, Try.ntmps5
  go_upto_region 1 with (fail)
  change Code.wp _ _ _ _ ((w.alloc (.cells (paL zP).toArray 28)).alloc (.cells (tunA false 0 0 none 0 0 none 0 0) 31))
  rw [HW.out.1, HW.out.2]
  go_wp2_with fail
  refine KP.out.mono ?_
  rintro e w2 ⟨X2, rfl, b2, he2, hok2⟩
  by_cases hE : pkE l = 0
  · obtain ⟨H, V2, g2, hDl, hsE, hsG, h1, h2, h3, h4, h5, h6⟩ := (hok2 hE).ipT
    rw [hE]
    have h2s := V2.size
    have h2o := V2.one
    have h20 := V2.x0
    have hof : Hid (seenE l = segE (pkH l) (pkD l)) := hide (by unfold seenE; rw [if_neg (fun e => e hE)])
    have b3 : Below w2.heap.size w2 (w2.alloc (.cells X2 48)) := (Below.refl _ _).alloc (Nat.le_refl _) _
    have r3 := heap_alloc_new w2 (.cells X2 48)
    have B3 : Hid (Below W.heap.size W (w2.alloc (.cells X2 48))) := hide ((b2.trans (b3.mono b2.size)))
    obtain ⟨G, hG⟩ : ∃ G, G = w2.heap.size := ⟨_, rfl⟩
    have HGG : Hid (W.heap.size ≤ G) := hide (by rw [hG]; exact b2.size)
    have hgb := (g2.1.below b3).more b3.size
    have hz3 : (w2.alloc (.cells X2 48)).heap.size = G + 1 := by rw [hG]; simp
    dsimp only
    go_upto_region 2 with (fail)
    rw [← hG] at r3 ⊢
    generalize w2.alloc (.cells X2 48) = w3 at r3 B3 hgb hz3 ⊢
    have hdl := pkD_le l
    have KS := parseS_any w3 X2 H V2 (pkD l) hgb hDl (by rw [← hDl]; exact g2.2.1) (by rw [← hDl]; have := HN.out; omega)
    have HKS := hide KS
    have HZ3 := hide hz3
    have x1 := V2.src
    have x2 := V2.dst
    have HR3 := hide r3
    have HDL := hide hdl
    have HLS := hide (And.intro V2.ls V2.ld)
    clear KS he2 hok2 b2 b3 hgb hz3 hG g2 hdl
    go_wp2_with fail
    refine HKS.out.mono ?_
    rintro e w4 hq
    obtain ⟨Y4, rfl, hYs, hYo, hY0⟩ := hq.val
    obtain ⟨_, e', b4, hne, hok⟩ := hq
    cases e'
    rw [hsE] at hne hok ⊢
    have B4 : Hid (Below W.heap.size W w4) := hide (B3.out.trans (b4.mono B3.out.size))
    have r4 := (b4.block G (by have := HZ3.out; omega)).trans HR3.out
    have b5 : Below w4.heap.size w4 (w4.alloc (.cells Y4 53)) := (Below.refl _ _).alloc (Nat.le_refl _) _
    have r5 := heap_alloc_new w4 (.cells Y4 53)
    have hGn : G < w4.heap.size := (Array.getElem?_eq_some_iff.1 r4).1
    have HGn := hide hGn
    have r5G := (b5.block G hGn).trans r4
    have B5 : Hid (Below W.heap.size W (w4.alloc (.cells Y4 53))) := hide (B4.out.trans (b5.mono B4.out.size))
    obtain ⟨z5, z5b⟩ := HKZ.out _ B5.out
    by_cases hE4 : segE (pkH l) (pkD l) = 0
    · obtain ⟨ao, co, ad, cd, V4, -, gD⟩ := hok hE4
      rw [hE4]
      have hSE0 : seenE l = 0 := hof.out.trans hE4
      have c0 := (V4.cells r5).c0
      have c1 := (V4.cells r5).c1
      have c2 := (V4.cells r5).c2
      have c10 := (V4.cells r5).c10
      have c36 := (V2.cells r5G).c36
      rw [hsG] at c0 c1 c2 c10
      obtain ⟨q1, q2, -⟩ := gotS_same (pkH l) (pkD l) ao ad co cd
      obtain ⟨q3, q4, q5, q6⟩ := gotS_sameG (pkH l) (pkD l) ao ad co cd
      rw [q3] at c0
      rw [q1] at c1
      rw [q2] at c2
      rw [q4, q5, q6] at c10
      rw [datS_p (pkD l) h5] at gD
      rw [h1, h2] at x1
      rw [h3, h4] at x2
      rw [h6] at c36
      have ht1 : (pkH l).sb.length = 16 := by rw [← h2]; exact HLS.out.1
      have ht2 : (pkH l).db.length = 16 := by rw [← h4]; exact HLS.out.2
      obtain ⟨D, hD⟩ : ∃ D, D = datS (pkH l) (pkD l) := ⟨_, rfl⟩
      have hDle := datS_le (pkH l) (pkD l)
      rw [← hD] at c10 gD hDle
      have hRR := HR.out
      unfold unwG at hRR
      rw [if_neg (fun e => e hSE0), show unwD l = D from hD.symm] at hRR
      obtain ⟨sp, hsp⟩ : ∃ x, x = (seenG l).p := ⟨_, rfl⟩
      obtain ⟨sb, hsb⟩ : ∃ x, x = (seenG l).b := ⟨_, rfl⟩
      obtain ⟨sa, hsa⟩ : ∃ x, x = (seenG l).a := ⟨_, rfl⟩
      obtain ⟨tt, htt⟩ : ∃ x, x = (pkH l).ttl := ⟨_, rfl⟩
      rw [show (gotS (pkH l) (pkD l) none 0 none 0).p = sp from hsp.symm] at c0
      rw [show (gotS (pkH l) (pkD l) none 0 none 0).b = sb from hsb.symm] at c2
      rw [show (gotS (pkH l) (pkD l) none 0 none 0).a = sa from hsa.symm] at c1
      rw [← htt] at c36
      rw [← hsp, ← hsb] at hRR
      obtain ⟨S, hS⟩ : ∃ S, S = (adL (pkH l).sv (pkH l).sb).toArray := ⟨_, rfl⟩
      obtain ⟨T, hT⟩ : ∃ S, S = (adL (pkH l).dv (pkH l).db).toArray := ⟨_, rfl⟩
      rw [← hS] at x1
      rw [← hT] at x2
      have k1 := built_gpG (pkH l).sv (pkH l).dv (pkH l).sb (pkH l).db sa tt ht1 ht2
      rw [← hS, ← hT] at k1
      obtain ⟨XP, hXP⟩ : ∃ XP, XP = (paL ⟨(pkH l).sv, (pkH l).sb, (pkH l).dv, (pkH l).db, sa, tt, 0⟩).toArray := ⟨_, rfl⟩
      rw [← hXP] at k1
      have VP : PaV XP (unwP l) := ⟨by rw [hXP, hsa, htt]; rfl, ht1, ht2⟩
      have hPs := VP.size
      have hPo := VP.one
      have HVP := hide VP
      have HRR := hide hRR
      obtain ⟨nD, hnD⟩ : ∃ n, n = D.length := ⟨_, rfl⟩
      have HGD : Hid (Byt (w4.alloc (.cells Y4 53)) (w4.alloc (.cells Y4 53)).heap.size ad D ∧ D.length ≤ cd ∧ (ad = none → cd = 0) ∧ D.length ≤ 140737488351232) := hide ⟨(gD.1.below b5).more b5.size, gD.2.1, gD.2.2.1, by have := HN.out; have := HDL.out; omega⟩
      rw [← hnD] at c10
      have HND := hide hnD
      obtain ⟨W5, hW5⟩ : ∃ W5, w4.alloc (.cells Y4 53) = W5 := ⟨_, rfl⟩
      have hg4 : w4.heap.size < W5.heap.size := by rw [← hW5]; simp
      rw [hW5] at r5 r5G B5 z5 z5b c0 c1 c2 c10 c36 HGD
      dsimp only
      go_upto_region 5 with (fail)
      try rw [hW5]
      clear hXP hS hT hsp hsb hsa htt hD hRR hok hne V4 q1 q2 q3 q4 q5 q6 VP gD ht1 ht2 hDle hnD b4 b5 r4 hGn HKS hsE hsG h1 h2 h3 h4 h5 h6 hE4 V2 hDl
      by_cases hpo : sp ≠ 17 ∨ sb ≠ 6081
      · have HE := hide (show R = (zP, zT, 14) by rw [HRR.out, if_pos hpo])
        have hcase : ((sp : Int) != 17) = true ∨ ((sp != 17) = false ∧ (sb != 6081) = true) := by
          by_cases h : sp = 17
          · exact .inr ⟨by simp [h], by simp; rcases hpo with h2 | h2; exact absurd h h2; exact h2⟩
          · exact .inl (by simpa using h)
        clear hpo
        rcases hcase with f1 | ⟨f1, f2⟩
        all_goals (
          have hp1 := setRow_heap W5 w.heap.size ZP ZP _ _ z5
          have hp2 : (W5.setRow w.heap.size ZP).heap[w.heap.size + 1]? = some (.cells ZT 31 (0, 0)) := ((setRow_grown W5 w.heap.size ZP).block _ (Array.getElem?_eq_some_iff.1 z5b).1 (by simp)).trans z5b
          go_wp2_with fail
          have hp3 := setRow_heap (W5.setRow w.heap.size ZP) (w.heap.size + 1) ZT ZT _ _ hp2
          have hp4 : ((W5.setRow w.heap.size ZP).setRow (w.heap.size + 1) ZT).heap[w.heap.size]? = some (.cells ZP 28 (0, 0)) := ((setRow_grown (W5.setRow w.heap.size ZP) (w.heap.size + 1) ZT).block _ (Array.getElem?_eq_some_iff.1 hp1).1 (by simp)).trans hp1
          refine bodyPost_ret (results_cells_tmp (fn := Try.f5) Try.results5 _ _ w.heap.size 28 ZP (0, 0) _ rfl hp4 Try.underlying28 rfl (by rw [hZPs]; exact info_gpath) (w.heap.size + 1) 31 ZT (0, 0) _ rfl hp3 Try.underlying31 rfl (by rw [hZTs]; exact info_tunG)) rfl ?_
          exact unR_err HZP.out HZT.out HE.out (below_setRow (below_setRow (HB.out.trans (B5.out.mono HB.out.size)) (Nat.le_refl _) _) (Nat.le_succ _) _))
      have hpo2 : sp = 17 ∧ sb = 6081 := by omega
      have hRR := HRR.out
      rw [if_neg hpo] at hRR
      obtain ⟨rfl, rfl⟩ := hpo2
      obtain ⟨OP, hOP⟩ : ∃ r, r = parD D := ⟨_, rfl⟩
      have KG := genParseF_any W5 ad cd D HGD.out.1 (by have := HGD.out.2.2.2; omega)
      rw [← hOP] at hRR KG
      rw [← HND.out] at KG
      have HRR := hide hRR
      have KG := hide KG
      have HG5 : Hid (w.heap.size + 1 < W5.heap.size) := hide (by have h1 := B5.out.size; have h2 := HZ.out; omega)
      have HG4 : Hid (G < W5.heap.size ∧ w4.heap.size < W5.heap.size) := hide ⟨(Array.getElem?_eq_some_iff.1 r5G).1, hg4⟩
      have HR5 := hide (And.intro r5 r5G)
      have HC := hide (And.intro c1 c36)
      clear hRR hOP hpo hg4 hW5
      go_wp2_with fail
      refine KG.out.mono ?_
      rintro e w6 hq
      obtain ⟨Y6, rfl, tg6, b6, hTs, hTo, hT0⟩ := hq.inv
      clear hq
      have r6 := (b6.block w4.heap.size HG4.out.2).trans HR5.out.1
      have r6G := (b6.block G HG4.out.1).trans HR5.out.2
      have d1 := (World.cell?_of_block (w := W5) (w' := w6) (a := ⟨w4.heap.size, 1, none⟩) (b6.block w4.heap.size HG4.out.2)).trans HC.out.1
      have d36 := (World.cell?_of_block (w := W5) (w' := w6) (a := ⟨G, 36, none⟩) (b6.block G HG4.out.1)).trans HC.out.2
      have B6 : Hid (Below W.heap.size W w6) := hide (B5.out.trans (b6.mono B5.out.size))
      obtain ⟨z6, z6b⟩ := HKZ.out _ B6.out
      have HTG := hide tg6
      obtain ⟨OT, OE⟩ := OP
      clear b6 r5 r5G c0 c1 c2 c10 c36 z5 z5b KG tg6
      dsimp only
      by_cases hoe : OE = 0
      · subst hoe
        have HE := hide (show R = (unwP l, OT, 0) by rw [HRR.out, if_neg (by simp)])
        have HB7 : Hid (Below w.heap.size w (w6.alloc (.cells Y6 31))) := hide (HB.out.trans ((B6.out.alloc B6.out.size _).mono HB.out.size))
        have HZ7 := hide (HKZ.out _ (B6.out.alloc B6.out.size (.cells Y6 31)))
        have l1 : LtN w.heap.size w6.heap.size := (Array.getElem?_eq_some_iff.1 z6).1
        have l2 : LtN (w.heap.size + 1) w6.heap.size := (Array.getElem?_eq_some_iff.1 z6b).1
        have l3 : LtN G w6.heap.size := (Array.getElem?_eq_some_iff.1 r6G).1
        have l4 : LtN w4.heap.size w6.heap.size := (Array.getElem?_eq_some_iff.1 r6).1
        have b7 : Below w6.heap.size w6 (w6.alloc (.cells Y6 31)) := (Below.refl _ _).alloc (Nat.le_refl _) _
        have r7G := (b7.block G l3).trans r6G
        have r7t := heap_alloc_new w6 (.cells Y6 31)
        have r7 := (b7.block w4.heap.size l4).trans r6
        have t1 := (World.cell?_alloc_lt w6 (.cells Y6 31) ⟨w4.heap.size, 1, none⟩ l4).trans d1
        have t36 := (World.cell?_alloc_lt w6 (.cells Y6 31) ⟨G, 36, none⟩ l3).trans d36
        have HTG7 := hide (HTG.out.below b7)
        obtain ⟨z7, z7b⟩ := HZ7.out
        obtain ⟨W7, hW7⟩ : ∃ W7, w6.alloc (.cells Y6 31) = W7 := ⟨_, rfl⟩
        rw [hW7] at HB7 HZ7 r7G r7 r7t t1 t36 HTG7 z7 z7b
        clear b7 d1 d36 r6 r6G z6 z6b
        go_upto_region 10 with (fail)
        try rw [hW7]
        clear hW7
        have hgw : w.heap.size + 1 < G ∧ w.heap.size + 1 < w4.heap.size ∧ w.heap.size + 1 < w6.heap.size := by have h1 := HGG.out; have h2 := HZ.out; have h3 : G < w4.heap.size := HGn.out; have h4 : w4.heap.size < w6.heap.size := l4; omega
        have hS7 : W7.heap[G]? = some (.cells X2 48 (0, 0)) ∧ W7.heap[w4.heap.size]? = some (.cells Y4 53 (0, 0)) ∧ W7.heap[w6.heap.size]? = some (.cells Y6 31 (0, 0)) ∧ W7.cell? ⟨w4.heap.size, 1, none⟩ = some (.int .i64 sa) ∧ W7.cell? ⟨G, 36, none⟩ = some (.int .i64 tt) := ⟨r7G, r7, r7t, t1, t36⟩
        have HK8 := hide (fun (X Y : World) (g : Nat) (C : Array Value) (hg : g ≤ w.heap.size + 1) (e : Y.heap = (X.setRow g C).heap) (h : X.heap[G]? = some (.cells X2 48 (0, 0)) ∧ X.heap[w4.heap.size]? = some (.cells Y4 53 (0, 0)) ∧ X.heap[w6.heap.size]? = some (.cells Y6 31 (0, 0)) ∧ X.cell? ⟨w4.heap.size, 1, none⟩ = some (.int .i64 sa) ∧ X.cell? ⟨G, 36, none⟩ = some (.int .i64 tt)) => (by
          obtain ⟨h1, h2, h3, h4, h5⟩ := h
          have k : ∀ i, i < X.heap.size → g ≠ i → Y.heap[i]? = X.heap[i]? := fun i hi hne => by rw [e]; exact (setRow_grown X g C).block i hi (by simp; omega)
          have k1 := k G (Array.getElem?_eq_some_iff.1 h1).1 (by omega)
          have k2 := k w4.heap.size (Array.getElem?_eq_some_iff.1 h2).1 (by omega)
          have k3 := k w6.heap.size (Array.getElem?_eq_some_iff.1 h3).1 (by omega)
          exact ⟨k1.trans h1, k2.trans h2, k3.trans h3, (World.cell?_of_block (a := ⟨w4.heap.size, 1, none⟩) k2).trans h4, (World.cell?_of_block (a := ⟨G, 36, none⟩) k1).trans h5⟩ : Y.heap[G]? = some (.cells X2 48 (0, 0)) ∧ Y.heap[w4.heap.size]? = some (.cells Y4 53 (0, 0)) ∧ Y.heap[w6.heap.size]? = some (.cells Y6 31 (0, 0)) ∧ Y.cell? ⟨w4.heap.size, 1, none⟩ = some (.int .i64 sa) ∧ Y.cell? ⟨G, 36, none⟩ = some (.int .i64 tt)))
        have HS7 := hide hS7
        clear hgw
        have hp1 := setRow_heap W7 w.heap.size ZP XP _ _ z7
        have hp2 : (W7.setRow w.heap.size XP).heap[w.heap.size + 1]? = some (.cells ZT 31 (0, 0)) := ((setRow_grown W7 w.heap.size XP).block _ (Array.getElem?_eq_some_iff.1 z7b).1 (by simp)).trans z7b
        go_upto_region 12 with (fail)
        refine wp_region_upZ (S := (fun w' => w'.heap[G]? = some (.cells X2 48 (0, 0)) ∧ w'.heap[w4.heap.size]? = some (.cells Y4 53 (0, 0)) ∧ w'.heap[w6.heap.size]? = some (.cells Y6 31 (0, 0)) ∧ w'.cell? ⟨w4.heap.size, 1, none⟩ = some (.int .i64 sa) ∧ w'.cell? ⟨G, 36, none⟩ = some (.int .i64 tt))) 12 (by kernel_rfl) hS7 (fun hHeld => ?_)
        refine upZ_take (i := 0) (oi := ⟨some 50, _, _, _, _, _⟩) (v := ?_) rfl (by kernel_rfl) (by kernel_rfl) (by kernel_rfl) (by kernel_rfl) (fun _ _ _ h => h) (Or.inl ⟨by rfl, ?_⟩) hHeld ?_
        rotate_left
        · (intro w' hSw; (try dsimp only at hSw); go_split_ands; go_simp; try with_reducible rfl)
        (try simp only [Act.put, List.setIfInBounds_toArray, List.set_cons_zero, List.set_cons_succ])
        refine upZ_take (i := 1) (oi := ⟨some 51, _, _, _, _, _⟩) (v := ?_) rfl (by kernel_rfl) (by kernel_rfl) (by kernel_rfl) (by kernel_rfl) (fun _ _ _ h => h) (Or.inl ⟨by rfl, ?_⟩) hHeld ?_
        rotate_left
        · (intro w' hSw; (try dsimp only at hSw); go_split_ands; go_simp; try with_reducible rfl)
        (try simp only [Act.put, List.setIfInBounds_toArray, List.set_cons_zero, List.set_cons_succ])
        refine upZ_take (i := 2) (oi := ⟨some 52, _, _, _, _, _⟩) (v := ?_) rfl (by kernel_rfl) (by kernel_rfl) (by kernel_rfl) (by kernel_rfl) (fun _ _ _ h => h) (Or.inl ⟨by rfl, ?_⟩) hHeld ?_
        rotate_left
        · (intro w' hSw; (try dsimp only at hSw); go_split_ands; go_simp; try with_reducible rfl)
        (try simp only [Act.put, List.setIfInBounds_toArray, List.set_cons_zero, List.set_cons_succ])
        refine upZ_take (i := 3) (oi := ⟨some 53, _, _, _, _, _⟩) (v := ?_) rfl (by kernel_rfl) (by kernel_rfl) (by kernel_rfl) (by kernel_rfl) (fun _ _ _ h => h) (Or.inl ⟨by rfl, ?_⟩) hHeld ?_
        rotate_left
        · (intro w' hSw; (try dsimp only at hSw); go_split_ands; go_simp; try with_reducible rfl)
        (try simp only [Act.put, List.setIfInBounds_toArray, List.set_cons_zero, List.set_cons_succ])
        refine upZ_take (i := 4) (oi := ⟨some 54, _, _, _, _, _⟩) (v := ?_) rfl (by kernel_rfl) (by kernel_rfl) (by kernel_rfl) (by kernel_rfl) (fun _ _ _ h => h) (Or.inl ⟨by rfl, ?_⟩) hHeld ?_
        rotate_left
        · (intro w' hSw; (try dsimp only at hSw); go_split_ands; go_simp; try with_reducible rfl)
        (try simp only [Act.put, List.setIfInBounds_toArray, List.set_cons_zero, List.set_cons_succ])
        refine upZ_take (i := 5) (oi := ⟨some 55, _, _, _, _, _⟩) (v := ?_) rfl (by kernel_rfl) (by kernel_rfl) (by kernel_rfl) (by kernel_rfl) (fun _ _ _ h => h) (Or.inl ⟨by rfl, ?_⟩) hHeld ?_
        rotate_left
        · (intro w' hSw; (try dsimp only at hSw); go_split_ands; go_simp; try with_reducible rfl)
        (try simp only [Act.put, List.setIfInBounds_toArray, List.set_cons_zero, List.set_cons_succ])
        refine upZ_take (i := 6) (oi := ⟨some 56, _, _, _, _, _⟩) (v := ?_) rfl (by kernel_rfl) (by kernel_rfl) (by kernel_rfl) (by kernel_rfl) (fun _ _ _ h => h) (Or.inl ⟨by rfl, ?_⟩) hHeld ?_
        rotate_left
        · (intro w' hSw; (try dsimp only at hSw); go_split_ands; go_simp; try with_reducible rfl)
        (try simp only [Act.put, List.setIfInBounds_toArray, List.set_cons_zero, List.set_cons_succ])
        refine upZ_take (i := 7) (oi := ⟨some 57, _, _, _, _, _⟩) (v := ?_) rfl (by kernel_rfl) (by kernel_rfl) (by kernel_rfl) (by kernel_rfl) (fun _ _ _ h => h) (Or.inl ⟨by rfl, ?_⟩) hHeld ?_
        rotate_left
        · (intro w' hSw; (try dsimp only at hSw); go_split_ands; go_simp; try with_reducible rfl)
        (try simp only [Act.put, List.setIfInBounds_toArray, List.set_cons_zero, List.set_cons_succ])
        refine upZ_take (i := 8) (oi := ⟨some 58, _, _, _, _, _⟩) (v := ?_) rfl (by kernel_rfl) (by kernel_rfl) (by kernel_rfl) (by kernel_rfl) (fun _ _ _ h => h) (Or.inl ⟨by rfl, ?_⟩) hHeld ?_
        rotate_left
        · (intro w' hSw; (try dsimp only at hSw); go_split_ands; go_simp; try with_reducible rfl)
        (try simp only [Act.put, List.setIfInBounds_toArray, List.set_cons_zero, List.set_cons_succ])
        refine upZ_take (i := 9) (oi := ⟨some 59, _, _, _, _, _⟩) (v := ?_) rfl (by kernel_rfl) (by kernel_rfl) (by kernel_rfl) (by kernel_rfl) (fun _ _ _ h => h) (Or.inl ⟨by rfl, ?_⟩) hHeld ?_
        rotate_left
        · (intro w' hSw; (try dsimp only at hSw); go_split_ands; go_simp; try with_reducible rfl)
        (try simp only [Act.put, List.setIfInBounds_toArray, List.set_cons_zero, List.set_cons_succ])
        refine upZ_only (i := 10) (o := ⟨none, _, _, _, _, _⟩) (by kernel_rfl) rfl rfl (fun K hK => ?_)
        clear hHeld
        go_simp
        refine hK.out _ _ (HK8.out W7 _ w.heap.size XP (Nat.le_succ _) rfl HS7.out) (fun hHeld => ?_)
        clear hK K
        (try simp only [Act.put, List.setIfInBounds_toArray, List.set_cons_zero, List.set_cons_succ])
        refine upZ_only (i := 11) (o := ⟨none, _, _, _, _, _⟩) (by kernel_rfl) rfl rfl (fun K hK => ?_)
        clear hHeld
        go_simp
        refine hK.out _ _ (HK8.out (W7.setRow w.heap.size XP) _ (w.heap.size + 1) Y6 (Nat.le_refl _) rfl (HK8.out W7 (W7.setRow w.heap.size XP) w.heap.size XP (Nat.le_succ _) rfl HS7.out)) (fun hHeld => ?_)
        clear hK K
        (try simp only [Act.put, List.setIfInBounds_toArray, List.set_cons_zero, List.set_cons_succ])
        refine upZ_last (o := ⟨some 4, _, _, _, _, _⟩) (by kernel_rfl) rfl (by kernel_rfl) (fun K hK => ?_)
        clear hHeld
        go_simp
        refine hK.out _ _ ?_
        clear hK K
        (try simp only [Act.put, List.setIfInBounds_toArray, List.set_cons_zero, List.set_cons_succ])
        go_wp2_with fail
        have hp3 := setRow_heap (W7.setRow w.heap.size XP) (w.heap.size + 1) ZT Y6 _ _ hp2
        have hp4 : ((W7.setRow w.heap.size XP).setRow (w.heap.size + 1) Y6).heap[w.heap.size]? = some (.cells XP 28 (0, 0)) := ((setRow_grown (W7.setRow w.heap.size XP) (w.heap.size + 1) Y6).block _ (Array.getElem?_eq_some_iff.1 hp1).1 (by simp)).trans hp1
        have hd4 : ((W7.setRow w.heap.size XP).setRow (w.heap.size + 1) Y6).drew.heap[w.heap.size]? = some (.cells XP 28 (0, 0)) := hp4
        have hd3 : ((W7.setRow w.heap.size XP).setRow (w.heap.size + 1) Y6).drew.heap[w.heap.size + 1]? = some (.cells Y6 31 (0, 0)) := hp3
        refine bodyPost_ret (results_cells_tmp (fn := Try.f5) Try.results5 _ _ w.heap.size 28 XP (0, 0) _ rfl hd4 Try.underlying28 rfl (by rw [hPs]; exact info_gpath) (w.heap.size + 1) 31 Y6 (0, 0) _ rfl hd3 Try.underlying31 rfl (by rw [hTs]; exact info_tunG)) rfl ?_
        have gs1 := grown_rowT W7 w.heap.size XP
        have gs2 := grown_rowT (W7.setRow w.heap.size XP) (w.heap.size + 1) Y6
        rw [HE.out]
        exact ⟨XP, Y6, rfl, HVP.out, (((HTG7.out.grown gs1 (by have := HG5.out; omega)).grown gs2 (by have := HG5.out; omega)).le (by have := HG5.out; omega)).below ((Below.refl _ _).drew), (below_setRow (below_setRow HB7.out (Nat.le_refl _) _) (Nat.le_succ _) _).drew⟩
      · have hne : (OE != 0) = true := by simpa using hoe
        have HE := hide (show R = (zP, zT, OE) by rw [HRR.out, if_pos hoe])
        have HB7 : Hid (Below w.heap.size w (w6.alloc (.cells Y6 31))) := hide (HB.out.trans ((B6.out.alloc B6.out.size _).mono HB.out.size))
        obtain ⟨z7, z7b⟩ := HKZ.out _ (B6.out.alloc B6.out.size (.cells Y6 31))
        obtain ⟨W7, hW7⟩ : ∃ W7, w6.alloc (.cells Y6 31) = W7 := ⟨_, rfl⟩
        rw [hW7] at HB7 z7 z7b
        clear hoe
        go_upto_region 10 with (fail)
        try rw [hW7]
        have hp1 := setRow_heap W7 w.heap.size ZP ZP _ _ z7
        have hp2 : (W7.setRow w.heap.size ZP).heap[w.heap.size + 1]? = some (.cells ZT 31 (0, 0)) := ((setRow_grown W7 w.heap.size ZP).block _ (Array.getElem?_eq_some_iff.1 z7b).1 (by simp)).trans z7b
        go_wp2_with fail
        have hp3 := setRow_heap (W7.setRow w.heap.size ZP) (w.heap.size + 1) ZT ZT _ _ hp2
        have hp4 : ((W7.setRow w.heap.size ZP).setRow (w.heap.size + 1) ZT).heap[w.heap.size]? = some (.cells ZP 28 (0, 0)) := ((setRow_grown (W7.setRow w.heap.size ZP) (w.heap.size + 1) ZT).block _ (Array.getElem?_eq_some_iff.1 hp1).1 (by simp)).trans hp1
        refine bodyPost_ret (results_cells_tmp (fn := Try.f5) Try.results5 _ _ w.heap.size 28 ZP (0, 0) _ rfl hp4 Try.underlying28 rfl (by rw [hZPs]; exact info_gpath) (w.heap.size + 1) 31 ZT (0, 0) _ rfl hp3 Try.underlying31 rfl (by rw [hZTs]; exact info_tunG)) rfl ?_
        exact unR_err HZP.out HZT.out HE.out (below_setRow (below_setRow (HB7.out) (Nat.le_refl _) _) (Nat.le_succ _) _)
    · have hEb : (segE (pkH l) (pkD l) != 0) = true := by simpa using hE4
      have HE : Hid (R = (zP, zT, segE (pkH l) (pkD l))) := hide (by rw [HR.out]; unfold unwG; rw [if_pos (by rw [hof.out]; exact hE4), hof.out])
      obtain ⟨E, hEE⟩ : ∃ E, E = segE (pkH l) (pkD l) := ⟨_, rfl⟩
      rw [← hEE] at hEb HE ⊢
      obtain ⟨W5, hW5⟩ : ∃ W5, w4.alloc (.cells Y4 53) = W5 := ⟨_, rfl⟩
      rw [hW5] at B5 z5 z5b
      clear hok hne hE4 hEE r5G r4 hGn x1 x2 r5
      dsimp only
      go_upto_region 5 with (fail)
      try rw [hW5]
      have hp1 := setRow_heap W5 w.heap.size ZP ZP _ _ z5
      have hp2 : (W5.setRow w.heap.size ZP).heap[w.heap.size + 1]? = some (.cells ZT 31 (0, 0)) := ((setRow_grown W5 w.heap.size ZP).block _ (Array.getElem?_eq_some_iff.1 z5b).1 (by simp)).trans z5b
      go_wp2_with fail
      have hp3 := setRow_heap (W5.setRow w.heap.size ZP) (w.heap.size + 1) ZT ZT _ _ hp2
      have hp4 : ((W5.setRow w.heap.size ZP).setRow (w.heap.size + 1) ZT).heap[w.heap.size]? = some (.cells ZP 28 (0, 0)) := ((setRow_grown (W5.setRow w.heap.size ZP) (w.heap.size + 1) ZT).block _ (Array.getElem?_eq_some_iff.1 hp1).1 (by simp)).trans hp1
      refine bodyPost_ret (results_cells_tmp (fn := Try.f5) Try.results5 _ _ w.heap.size 28 ZP (0, 0) _ rfl hp4 Try.underlying28 rfl (by rw [hZPs]; exact info_gpath) (w.heap.size + 1) 31 ZT (0, 0) _ rfl hp3 Try.underlying31 rfl (by rw [hZTs]; exact info_tunG)) rfl ?_
      exact unR_err HZP.out HZT.out HE.out (below_setRow (below_setRow (HB.out.trans (B5.out.mono HB.out.size)) (Nat.le_refl _) _) (Nat.le_succ _) _)
  · have hX := he2 hE
    have V2 : IpV X2 (nIp 0 0 0 0 false) := by rw [hX]; exact nIp_ok _ _ _ _ _
    have h2s := V2.size
    have h2o := V2.one
    have hEb : (pkE l != 0) = true := by simpa using hE
    have HE : Hid (R = (zP, zT, pkE l)) := hide (by rw [HR.out]; unfold unwG seenE; rw [if_pos hE, if_pos hE])
    obtain ⟨E, hEE⟩ : ∃ E, E = pkE l := ⟨_, rfl⟩
    rw [← hEE] at hEb HE ⊢
    have B3 : Hid (Below W.heap.size W (w2.alloc (.cells X2 48))) := hide ((b2.trans (((Below.refl _ _).alloc (Nat.le_refl _) _).mono b2.size)))
    obtain ⟨z3, z3b⟩ := HKZ.out _ B3.out
    obtain ⟨W3, hW3⟩ : ∃ W3, w2.alloc (.cells X2 48) = W3 := ⟨_, rfl⟩
    rw [hW3] at B3 z3 z3b
    clear he2 hok2 hE hX hEE
    dsimp only
    go_upto_region 2 with (fail)
    try rw [hW3]
    have hp1 := setRow_heap W3 w.heap.size ZP ZP _ _ z3
    have hp2 : (W3.setRow w.heap.size ZP).heap[w.heap.size + 1]? = some (.cells ZT 31 (0, 0)) := ((setRow_grown W3 w.heap.size ZP).block _ (Array.getElem?_eq_some_iff.1 z3b).1 (by simp)).trans z3b
    go_wp2_with fail
    have hp3 := setRow_heap (W3.setRow w.heap.size ZP) (w.heap.size + 1) ZT ZT _ _ hp2
    have hp4 : ((W3.setRow w.heap.size ZP).setRow (w.heap.size + 1) ZT).heap[w.heap.size]? = some (.cells ZP 28 (0, 0)) := ((setRow_grown (W3.setRow w.heap.size ZP) (w.heap.size + 1) ZT).block _ (Array.getElem?_eq_some_iff.1 hp1).1 (by simp)).trans hp1
    refine bodyPost_ret (results_cells_tmp (fn := Try.f5) Try.results5 _ _ w.heap.size 28 ZP (0, 0) _ rfl hp4 Try.underlying28 rfl (by rw [hZPs]; exact info_gpath) (w.heap.size + 1) 31 ZT (0, 0) _ rfl hp3 Try.underlying31 rfl (by rw [hZTs]; exact info_tunG)) rfl ?_
    exact unR_err HZP.out HZT.out HE.out (below_setRow (below_setRow (HB.out.trans (B3.out.mono HB.out.size)) (Nat.le_refl _) _) (Nat.le_succ _) _)
set_option maxHeartbeats 8000000 in
theorem refunwrapG_any (w : World) (B : Nat) (A : Option Addr) (l : List UInt8) (c : Nat) (hlc : l.length ≤ c) (hn : l.length ≤ 140737488351232) (hb : Byt w B A l) (hB : B ≤ w.heap.size) :
    Calls Try.prog 6 #[.slice A l.length c] w (UnR w (unwG l)) := by
  obtain ⟨R, hR⟩ : ∃ R, R = unwG l := ⟨_, rfl⟩
  rw [← hR]
  have HR := hide hR
  obtain ⟨ZP, hZP⟩ : ∃ Z, Z = (paL zP).toArray := ⟨_, rfl⟩
  obtain ⟨ZT, hZT⟩ : ∃ Z, Z = tunA false 0 0 none 0 0 none 0 0 := ⟨_, rfl⟩
  have hbp := built_gwpath0
  have hbt := rbuilt_tun0
  rw [← hZP] at hbp
  rw [← hZT] at hbt
  have hZPs : ZP.size = 37 := by rw [hZP]; exact zP_ok.size
  have hZPo : allOne ZP = true := by rw [hZP]; exact zP_ok.one
  have hZTs : ZT.size = 5 := by rw [hZT]; rfl
  have hZTo : allOne ZT = true := by rw [hZT]; exact tunA_one _ _ _ _ _ _ _ _ _
  obtain ⟨W0, hW0, r0, z0, b0⟩ := alloc_tl w (.cells ZP 35)
  obtain ⟨W, hW, r1, z1, b1⟩ := alloc_tl W0 (.cells ZT 38)
  rw [z0] at r1
  have r0 := (b1.block w.heap.size (by omega)).trans r0
  have hbW : Below w.heap.size w W := b0.trans (b1.mono (by omega))
  have hz : W.heap.size = w.heap.size + 2 := by omega
  have HZP := hide hZP
  have HZT := hide hZT
  rw [hZP] at hW0
  rw [hZT] at hW
  have HW := hide (And.intro hW0 hW)
  have KP := hide (refparseH_any W W.heap.size A l c hlc (by omega) ((hb.below (hbW.mono hB)).more (Nat.le_trans hB hbW.size)) (Nat.le_refl _))
  have HKZ := hide (fun (w1 : World) (b : Below W.heap.size W w1) => (⟨(b.block w.heap.size (by omega)).trans r0, (b.block (w.heap.size + 1) (by omega)).trans r1⟩ : w1.heap[w.heap.size]? = some (.cells ZP 35 (0, 0)) ∧ w1.heap[w.heap.size + 1]? = some (.cells ZT 38 (0, 0))))
  have HB := hide hbW
  have HZ := hide hz
  have HN := hide hn
  have HL := hide hlc
  clear hZP hZT hW hW0 b0 b1 hbW hz hb hB r0 r1 z0 z1 hR hn hlc
  go_enter Try.func6, Try.ntmps6
  go_upto_region 1 with (fail)
  change Code.wp _ _ _ _ ((w.alloc (.cells (paL zP).toArray 35)).alloc (.cells (tunA false 0 0 none 0 0 none 0 0) 38))
  rw [HW.out.1, HW.out.2]
  go_wp2_with fail
  refine KP.out.mono ?_
  rintro e w2 ⟨X2, rfl, b2, he2, hok2⟩
  by_cases hE : pkE l = 0
  · obtain ⟨H, V2, g2, hDl, hsE, hsG, h1, h2, h3, h4, h5, h6⟩ := (hok2 hE).ipT
    rw [hE]
    have h2s := V2.size
    have h2o := V2.one
    have h20 := V2.x0
    have hof : Hid (seenE l = segE (pkH l) (pkD l)) := hide (by unfold seenE; rw [if_neg (fun e => e hE)])
    have b3 : Below w2.heap.size w2 (w2.alloc (.cells X2 58)) := (Below.refl _ _).alloc (Nat.le_refl _) _
    have r3 := heap_alloc_new w2 (.cells X2 58)
    have B3 : Hid (Below W.heap.size W (w2.alloc (.cells X2 58))) := hide ((b2.trans (b3.mono b2.size)))
    obtain ⟨G, hG⟩ : ∃ G, G = w2.heap.size := ⟨_, rfl⟩
    have HGG : Hid (W.heap.size ≤ G) := hide (by rw [hG]; exact b2.size)
    have hgb := (g2.1.below b3).more b3.size
    have hz3 : (w2.alloc (.cells X2 58)).heap.size = G + 1 := by rw [hG]; simp
    dsimp only
    go_upto_region 2 with (fail)
    rw [← hG] at r3 ⊢
    generalize w2.alloc (.cells X2 58) = w3 at r3 B3 hgb hz3 ⊢
    have hdl := pkD_le l
    have KS := refparseS_any w3 X2 H V2 (pkD l) hgb hDl (by rw [← hDl]; exact g2.2.1) (by rw [← hDl]; have := HN.out; omega) g2.2.2.1
    have HKS := hide KS
    have HZ3 := hide hz3
    have x1 := V2.src
    have x2 := V2.dst
    have HR3 := hide r3
    have HDL := hide hdl
    have HLS := hide (And.intro V2.ls V2.ld)
    clear KS he2 hok2 b2 b3 hgb hz3 hG g2 hdl
    go_wp2_with fail
    refine HKS.out.mono ?_
    rintro e w4 hq
    obtain ⟨Y4, rfl, hYs, hYo, hY0⟩ := hq.val
    obtain ⟨_, e', b4, hne, hok⟩ := hq
    cases e'
    rw [hsE] at hne hok ⊢
    have B4 : Hid (Below W.heap.size W w4) := hide (B3.out.trans (b4.mono B3.out.size))
    have r4 := (b4.block G (by have := HZ3.out; omega)).trans HR3.out
    have b5 : Below w4.heap.size w4 (w4.alloc (.cells Y4 61)) := (Below.refl _ _).alloc (Nat.le_refl _) _
    have r5 := heap_alloc_new w4 (.cells Y4 61)
    have hGn : G < w4.heap.size := (Array.getElem?_eq_some_iff.1 r4).1
    have HGn := hide hGn
    have r5G := (b5.block G hGn).trans r4
    have B5 : Hid (Below W.heap.size W (w4.alloc (.cells Y4 61))) := hide (B4.out.trans (b5.mono B4.out.size))
    obtain ⟨z5, z5b⟩ := HKZ.out _ B5.out
    by_cases hE4 : segE (pkH l) (pkD l) = 0
    · obtain ⟨ao, co, ad, cd, V4, -, gD⟩ := hok hE4
      rw [hE4]
      have hSE0 : seenE l = 0 := hof.out.trans hE4
      have c0 := (V4.cells r5).c0
      have c1 := (V4.cells r5).c1
      have c2 := (V4.cells r5).c2
      have c10 := (V4.cells r5).c10
      have c36 := (V2.cells r5G).c36
      rw [hsG] at c0 c1 c2 c10
      obtain ⟨q1, q2, -⟩ := gotS_same (pkH l) (pkD l) ao ad co cd
      obtain ⟨q3, q4, q5, q6⟩ := gotS_sameG (pkH l) (pkD l) ao ad co cd
      rw [q3] at c0
      rw [q1] at c1
      rw [q2] at c2
      rw [q4, q5, q6] at c10
      rw [datS_p (pkD l) h5] at gD
      rw [h1, h2] at x1
      rw [h3, h4] at x2
      rw [h6] at c36
      have ht1 : (pkH l).sb.length = 16 := by rw [← h2]; exact HLS.out.1
      have ht2 : (pkH l).db.length = 16 := by rw [← h4]; exact HLS.out.2
      obtain ⟨D, hD⟩ : ∃ D, D = datS (pkH l) (pkD l) := ⟨_, rfl⟩
      have hDle := datS_le (pkH l) (pkD l)
      rw [← hD] at c10 gD hDle
      have hRR := HR.out
      unfold unwG at hRR
      rw [if_neg (fun e => e hSE0), show unwD l = D from hD.symm] at hRR
      obtain ⟨sp, hsp⟩ : ∃ x, x = (seenG l).p := ⟨_, rfl⟩
      obtain ⟨sb, hsb⟩ : ∃ x, x = (seenG l).b := ⟨_, rfl⟩
      obtain ⟨sa, hsa⟩ : ∃ x, x = (seenG l).a := ⟨_, rfl⟩
      obtain ⟨tt, htt⟩ : ∃ x, x = (pkH l).ttl := ⟨_, rfl⟩
      rw [show (gotS (pkH l) (pkD l) none 0 none 0).p = sp from hsp.symm] at c0
      rw [show (gotS (pkH l) (pkD l) none 0 none 0).b = sb from hsb.symm] at c2
      rw [show (gotS (pkH l) (pkD l) none 0 none 0).a = sa from hsa.symm] at c1
      rw [← htt] at c36
      rw [← hsp, ← hsb] at hRR
      obtain ⟨S, hS⟩ : ∃ S, S = (adL (pkH l).sv (pkH l).sb).toArray := ⟨_, rfl⟩
      obtain ⟨T, hT⟩ : ∃ S, S = (adL (pkH l).dv (pkH l).db).toArray := ⟨_, rfl⟩
      rw [← hS] at x1
      rw [← hT] at x2
      have k1 := built_gwpG (pkH l).sv (pkH l).dv (pkH l).sb (pkH l).db sa tt ht1 ht2
      rw [← hS, ← hT] at k1
      obtain ⟨XP, hXP⟩ : ∃ XP, XP = (paL ⟨(pkH l).sv, (pkH l).sb, (pkH l).dv, (pkH l).db, sa, tt, 0⟩).toArray := ⟨_, rfl⟩
      rw [← hXP] at k1
      have VP : PaV XP (unwP l) := ⟨by rw [hXP, hsa, htt]; rfl, ht1, ht2⟩
      have hPs := VP.size
      have hPo := VP.one
      have HVP := hide VP
      have HRR := hide hRR
      obtain ⟨nD, hnD⟩ : ∃ n, n = D.length := ⟨_, rfl⟩
      have HGD : Hid (Byt (w4.alloc (.cells Y4 61)) (w4.alloc (.cells Y4 61)).heap.size ad D ∧ D.length ≤ cd ∧ (ad = none → cd = 0) ∧ D.length ≤ 140737488351232) := hide ⟨(gD.1.below b5).more b5.size, gD.2.1, gD.2.2.1, by have := HN.out; have := HDL.out; omega⟩
      rw [← hnD] at c10
      have HND := hide hnD
      obtain ⟨W5, hW5⟩ : ∃ W5, w4.alloc (.cells Y4 61) = W5 := ⟨_, rfl⟩
      have hg4 : w4.heap.size < W5.heap.size := by rw [← hW5]; simp
      rw [hW5] at r5 r5G B5 z5 z5b c0 c1 c2 c10 c36 HGD
      dsimp only
      go_upto_region 5 with (fail)
      try rw [hW5]
      clear hXP hS hT hsp hsb hsa htt hD hRR hok hne V4 q1 q2 q3 q4 q5 q6 VP gD ht1 ht2 hDle hnD b4 b5 r4 hGn HKS hsE hsG h1 h2 h3 h4 h5 h6 hE4 V2 hDl
      by_cases hpo : sp ≠ 17 ∨ sb ≠ 6081
      · have HE := hide (show R = (zP, zT, 14) by rw [HRR.out, if_pos hpo])
        have hcase : ((sp : Int) != 17) = true ∨ ((sp != 17) = false ∧ (sb != 6081) = true) := by
          by_cases h : sp = 17
          · exact .inr ⟨by simp [h], by simp; rcases hpo with h2 | h2; exact absurd h h2; exact h2⟩
          · exact .inl (by simpa using h)
        clear hpo
        rcases hcase with f1 | ⟨f1, f2⟩
        all_goals (
          have hp1 := setRow_heap W5 w.heap.size ZP ZP _ _ z5
          have hp2 : (W5.setRow w.heap.size ZP).heap[w.heap.size + 1]? = some (.cells ZT 38 (0, 0)) := ((setRow_grown W5 w.heap.size ZP).block _ (Array.getElem?_eq_some_iff.1 z5b).1 (by simp)).trans z5b
          go_wp2_with fail
          have hp3 := setRow_heap (W5.setRow w.heap.size ZP) (w.heap.size + 1) ZT ZT _ _ hp2
          have hp4 : ((W5.setRow w.heap.size ZP).setRow (w.heap.size + 1) ZT).heap[w.heap.size]? = some (.cells ZP 35 (0, 0)) := ((setRow_grown (W5.setRow w.heap.size ZP) (w.heap.size + 1) ZT).block _ (Array.getElem?_eq_some_iff.1 hp1).1 (by simp)).trans hp1
          refine bodyPost_ret (results_cells_tmp (fn := Try.f6) Try.results6 _ _ w.heap.size 35 ZP (0, 0) _ rfl hp4 Try.underlying35 rfl (by rw [hZPs]; exact info_rpath) (w.heap.size + 1) 38 ZT (0, 0) _ rfl hp3 Try.underlying38 rfl (by rw [hZTs]; exact info_rtunG)) rfl ?_
          exact unR_err HZP.out HZT.out HE.out (below_setRow (below_setRow (HB.out.trans (B5.out.mono HB.out.size)) (Nat.le_refl _) _) (Nat.le_succ _) _))
      have hpo2 : sp = 17 ∧ sb = 6081 := by omega
      have hRR := HRR.out
      rw [if_neg hpo] at hRR
      obtain ⟨rfl, rfl⟩ := hpo2
      obtain ⟨OP, hOP⟩ : ∃ r, r = parD D := ⟨_, rfl⟩
      have KG := refparGF_any W5 ad cd D HGD.out.1 HGD.out.2.1 HGD.out.2.2.2 HGD.out.2.2.1
      rw [← hOP] at hRR KG
      rw [← HND.out] at KG
      have HRR := hide hRR
      have KG := hide KG
      have HG5 : Hid (w.heap.size + 1 < W5.heap.size) := hide (by have h1 := B5.out.size; have h2 := HZ.out; omega)
      have HG4 : Hid (G < W5.heap.size ∧ w4.heap.size < W5.heap.size) := hide ⟨(Array.getElem?_eq_some_iff.1 r5G).1, hg4⟩
      have HR5 := hide (And.intro r5 r5G)
      have HC := hide (And.intro c1 c36)
      clear hRR hOP hpo hg4 hW5
      go_wp2_with fail
      refine KG.out.mono ?_
      rintro e w6 hq
      obtain ⟨Y6, rfl, tg6, b6, hTs, hTo, hT0⟩ := hq.inv
      clear hq
      have r6 := (b6.block w4.heap.size HG4.out.2).trans HR5.out.1
      have r6G := (b6.block G HG4.out.1).trans HR5.out.2
      have d1 := (World.cell?_of_block (w := W5) (w' := w6) (a := ⟨w4.heap.size, 1, none⟩) (b6.block w4.heap.size HG4.out.2)).trans HC.out.1
      have d36 := (World.cell?_of_block (w := W5) (w' := w6) (a := ⟨G, 36, none⟩) (b6.block G HG4.out.1)).trans HC.out.2
      have B6 : Hid (Below W.heap.size W w6) := hide (B5.out.trans (b6.mono B5.out.size))
      obtain ⟨z6, z6b⟩ := HKZ.out _ B6.out
      have HTG := hide tg6
      obtain ⟨OT, OE⟩ := OP
      clear b6 r5 r5G c0 c1 c2 c10 c36 z5 z5b KG tg6
      dsimp only
      by_cases hoe : OE = 0
      · subst hoe
        have HE := hide (show R = (unwP l, OT, 0) by rw [HRR.out, if_neg (by simp)])
        have HB7 : Hid (Below w.heap.size w (w6.alloc (.cells Y6 38))) := hide (HB.out.trans ((B6.out.alloc B6.out.size _).mono HB.out.size))
        have HZ7 := hide (HKZ.out _ (B6.out.alloc B6.out.size (.cells Y6 38)))
        have l1 : LtN w.heap.size w6.heap.size := (Array.getElem?_eq_some_iff.1 z6).1
        have l2 : LtN (w.heap.size + 1) w6.heap.size := (Array.getElem?_eq_some_iff.1 z6b).1
        have l3 : LtN G w6.heap.size := (Array.getElem?_eq_some_iff.1 r6G).1
        have l4 : LtN w4.heap.size w6.heap.size := (Array.getElem?_eq_some_iff.1 r6).1
        have b7 : Below w6.heap.size w6 (w6.alloc (.cells Y6 38)) := (Below.refl _ _).alloc (Nat.le_refl _) _
        have r7G := (b7.block G l3).trans r6G
        have r7t := heap_alloc_new w6 (.cells Y6 38)
        have r7 := (b7.block w4.heap.size l4).trans r6
        have t1 := (World.cell?_alloc_lt w6 (.cells Y6 38) ⟨w4.heap.size, 1, none⟩ l4).trans d1
        have t36 := (World.cell?_alloc_lt w6 (.cells Y6 38) ⟨G, 36, none⟩ l3).trans d36
        have HTG7 := hide (HTG.out.below b7)
        obtain ⟨z7, z7b⟩ := HZ7.out
        obtain ⟨W7, hW7⟩ : ∃ W7, w6.alloc (.cells Y6 38) = W7 := ⟨_, rfl⟩
        rw [hW7] at HB7 HZ7 r7G r7 r7t t1 t36 HTG7 z7 z7b
        clear b7 d1 d36 r6 r6G z6 z6b
        go_upto_region 10 with (fail)
        try rw [hW7]
        clear hW7
        have hgw : w.heap.size + 1 < G ∧ w.heap.size + 1 < w4.heap.size ∧ w.heap.size + 1 < w6.heap.size := by have h1 := HGG.out; have h2 := HZ.out; have h3 : G < w4.heap.size := HGn.out; have h4 : w4.heap.size < w6.heap.size := l4; omega
        have hS7 : W7.heap[G]? = some (.cells X2 58 (0, 0)) ∧ W7.heap[w4.heap.size]? = some (.cells Y4 61 (0, 0)) ∧ W7.heap[w6.heap.size]? = some (.cells Y6 38 (0, 0)) ∧ W7.cell? ⟨w4.heap.size, 1, none⟩ = some (.int .i64 sa) ∧ W7.cell? ⟨G, 36, none⟩ = some (.int .i64 tt) := ⟨r7G, r7, r7t, t1, t36⟩
        have HK8 := hide (fun (X Y : World) (g : Nat) (C : Array Value) (hg : g ≤ w.heap.size + 1) (e : Y.heap = (X.setRow g C).heap) (h : X.heap[G]? = some (.cells X2 58 (0, 0)) ∧ X.heap[w4.heap.size]? = some (.cells Y4 61 (0, 0)) ∧ X.heap[w6.heap.size]? = some (.cells Y6 38 (0, 0)) ∧ X.cell? ⟨w4.heap.size, 1, none⟩ = some (.int .i64 sa) ∧ X.cell? ⟨G, 36, none⟩ = some (.int .i64 tt)) => (by
          obtain ⟨h1, h2, h3, h4, h5⟩ := h
          have k : ∀ i, i < X.heap.size → g ≠ i → Y.heap[i]? = X.heap[i]? := fun i hi hne => by rw [e]; exact (setRow_grown X g C).block i hi (by simp; omega)
          have k1 := k G (Array.getElem?_eq_some_iff.1 h1).1 (by omega)
          have k2 := k w4.heap.size (Array.getElem?_eq_some_iff.1 h2).1 (by omega)
          have k3 := k w6.heap.size (Array.getElem?_eq_some_iff.1 h3).1 (by omega)
          exact ⟨k1.trans h1, k2.trans h2, k3.trans h3, (World.cell?_of_block (a := ⟨w4.heap.size, 1, none⟩) k2).trans h4, (World.cell?_of_block (a := ⟨G, 36, none⟩) k1).trans h5⟩ : Y.heap[G]? = some (.cells X2 58 (0, 0)) ∧ Y.heap[w4.heap.size]? = some (.cells Y4 61 (0, 0)) ∧ Y.heap[w6.heap.size]? = some (.cells Y6 38 (0, 0)) ∧ Y.cell? ⟨w4.heap.size, 1, none⟩ = some (.int .i64 sa) ∧ Y.cell? ⟨G, 36, none⟩ = some (.int .i64 tt)))
        have HS7 := hide hS7
        clear hgw
        have hp1 := setRow_heap W7 w.heap.size ZP XP _ _ z7
        have hp2 : (W7.setRow w.heap.size XP).heap[w.heap.size + 1]? = some (.cells ZT 38 (0, 0)) := ((setRow_grown W7 w.heap.size XP).block _ (Array.getElem?_eq_some_iff.1 z7b).1 (by simp)).trans z7b
        go_upto_region 12 with (fail)
        refine wp_region_upZ (S := (fun w' => w'.heap[G]? = some (.cells X2 58 (0, 0)) ∧ w'.heap[w4.heap.size]? = some (.cells Y4 61 (0, 0)) ∧ w'.heap[w6.heap.size]? = some (.cells Y6 38 (0, 0)) ∧ w'.cell? ⟨w4.heap.size, 1, none⟩ = some (.int .i64 sa) ∧ w'.cell? ⟨G, 36, none⟩ = some (.int .i64 tt))) 12 (by kernel_rfl) hS7 (fun hHeld => ?_)
        refine upZ_take (i := 0) (oi := ⟨some 52, _, _, _, _, _⟩) (v := ?_) rfl (by kernel_rfl) (by kernel_rfl) (by kernel_rfl) (by kernel_rfl) (fun _ _ _ h => h) (Or.inl ⟨by rfl, ?_⟩) hHeld ?_
        rotate_left
        · (intro w' hSw; (try dsimp only at hSw); go_split_ands; go_simp; try with_reducible rfl)
        (try simp only [Act.put, List.setIfInBounds_toArray, List.set_cons_zero, List.set_cons_succ])
        refine upZ_take (i := 1) (oi := ⟨some 53, _, _, _, _, _⟩) (v := ?_) rfl (by kernel_rfl) (by kernel_rfl) (by kernel_rfl) (by kernel_rfl) (fun _ _ _ h => h) (Or.inl ⟨by rfl, ?_⟩) hHeld ?_
        rotate_left
        · (intro w' hSw; (try dsimp only at hSw); go_split_ands; go_simp; try with_reducible rfl)
        (try simp only [Act.put, List.setIfInBounds_toArray, List.set_cons_zero, List.set_cons_succ])
        refine upZ_take (i := 2) (oi := ⟨some 54, _, _, _, _, _⟩) (v := ?_) rfl (by kernel_rfl) (by kernel_rfl) (by kernel_rfl) (by kernel_rfl) (fun _ _ _ h => h) (Or.inl ⟨by rfl, ?_⟩) hHeld ?_
        rotate_left
        · (intro w' hSw; (try dsimp only at hSw); go_split_ands; go_simp; try with_reducible rfl)
        (try simp only [Act.put, List.setIfInBounds_toArray, List.set_cons_zero, List.set_cons_succ])
        refine upZ_take (i := 3) (oi := ⟨some 55, _, _, _, _, _⟩) (v := ?_) rfl (by kernel_rfl) (by kernel_rfl) (by kernel_rfl) (by kernel_rfl) (fun _ _ _ h => h) (Or.inl ⟨by rfl, ?_⟩) hHeld ?_
        rotate_left
        · (intro w' hSw; (try dsimp only at hSw); go_split_ands; go_simp; try with_reducible rfl)
        (try simp only [Act.put, List.setIfInBounds_toArray, List.set_cons_zero, List.set_cons_succ])
        refine upZ_take (i := 4) (oi := ⟨some 56, _, _, _, _, _⟩) (v := ?_) rfl (by kernel_rfl) (by kernel_rfl) (by kernel_rfl) (by kernel_rfl) (fun _ _ _ h => h) (Or.inl ⟨by rfl, ?_⟩) hHeld ?_
        rotate_left
        · (intro w' hSw; (try dsimp only at hSw); go_split_ands; go_simp; try with_reducible rfl)
        (try simp only [Act.put, List.setIfInBounds_toArray, List.set_cons_zero, List.set_cons_succ])
        refine upZ_take (i := 5) (oi := ⟨some 57, _, _, _, _, _⟩) (v := ?_) rfl (by kernel_rfl) (by kernel_rfl) (by kernel_rfl) (by kernel_rfl) (fun _ _ _ h => h) (Or.inl ⟨by rfl, ?_⟩) hHeld ?_
        rotate_left
        · (intro w' hSw; (try dsimp only at hSw); go_split_ands; go_simp; try with_reducible rfl)
        (try simp only [Act.put, List.setIfInBounds_toArray, List.set_cons_zero, List.set_cons_succ])
        refine upZ_take (i := 6) (oi := ⟨some 58, _, _, _, _, _⟩) (v := ?_) rfl (by kernel_rfl) (by kernel_rfl) (by kernel_rfl) (by kernel_rfl) (fun _ _ _ h => h) (Or.inl ⟨by rfl, ?_⟩) hHeld ?_
        rotate_left
        · (intro w' hSw; (try dsimp only at hSw); go_split_ands; go_simp; try with_reducible rfl)
        (try simp only [Act.put, List.setIfInBounds_toArray, List.set_cons_zero, List.set_cons_succ])
        refine upZ_take (i := 7) (oi := ⟨some 59, _, _, _, _, _⟩) (v := ?_) rfl (by kernel_rfl) (by kernel_rfl) (by kernel_rfl) (by kernel_rfl) (fun _ _ _ h => h) (Or.inl ⟨by rfl, ?_⟩) hHeld ?_
        rotate_left
        · (intro w' hSw; (try dsimp only at hSw); go_split_ands; go_simp; try with_reducible rfl)
        (try simp only [Act.put, List.setIfInBounds_toArray, List.set_cons_zero, List.set_cons_succ])
        refine upZ_take (i := 8) (oi := ⟨some 60, _, _, _, _, _⟩) (v := ?_) rfl (by kernel_rfl) (by kernel_rfl) (by kernel_rfl) (by kernel_rfl) (fun _ _ _ h => h) (Or.inl ⟨by rfl, ?_⟩) hHeld ?_
        rotate_left
        · (intro w' hSw; (try dsimp only at hSw); go_split_ands; go_simp; try with_reducible rfl)
        (try simp only [Act.put, List.setIfInBounds_toArray, List.set_cons_zero, List.set_cons_succ])
        refine upZ_take (i := 9) (oi := ⟨some 61, _, _, _, _, _⟩) (v := ?_) rfl (by kernel_rfl) (by kernel_rfl) (by kernel_rfl) (by kernel_rfl) (fun _ _ _ h => h) (Or.inl ⟨by rfl, ?_⟩) hHeld ?_
        rotate_left
        · (intro w' hSw; (try dsimp only at hSw); go_split_ands; go_simp; try with_reducible rfl)
        (try simp only [Act.put, List.setIfInBounds_toArray, List.set_cons_zero, List.set_cons_succ])
        refine upZ_only (i := 10) (o := ⟨none, _, _, _, _, _⟩) (by kernel_rfl) rfl rfl (fun K hK => ?_)
        clear hHeld
        go_simp
        refine hK.out _ _ (HK8.out W7 _ w.heap.size XP (Nat.le_succ _) rfl HS7.out) (fun hHeld => ?_)
        clear hK K
        (try simp only [Act.put, List.setIfInBounds_toArray, List.set_cons_zero, List.set_cons_succ])
        refine upZ_only (i := 11) (o := ⟨none, _, _, _, _, _⟩) (by kernel_rfl) rfl rfl (fun K hK => ?_)
        clear hHeld
        go_simp
        refine hK.out _ _ (HK8.out (W7.setRow w.heap.size XP) _ (w.heap.size + 1) Y6 (Nat.le_refl _) rfl (HK8.out W7 (W7.setRow w.heap.size XP) w.heap.size XP (Nat.le_succ _) rfl HS7.out)) (fun hHeld => ?_)
        clear hK K
        (try simp only [Act.put, List.setIfInBounds_toArray, List.set_cons_zero, List.set_cons_succ])
        refine upZ_last (o := ⟨some 4, _, _, _, _, _⟩) (by kernel_rfl) rfl (by kernel_rfl) (fun K hK => ?_)
        clear hHeld
        go_simp
        refine hK.out _ _ ?_
        clear hK K
        (try simp only [Act.put, List.setIfInBounds_toArray, List.set_cons_zero, List.set_cons_succ])
        go_wp2_with fail
        have hp3 := setRow_heap (W7.setRow w.heap.size XP) (w.heap.size + 1) ZT Y6 _ _ hp2
        have hp4 : ((W7.setRow w.heap.size XP).setRow (w.heap.size + 1) Y6).heap[w.heap.size]? = some (.cells XP 35 (0, 0)) := ((setRow_grown (W7.setRow w.heap.size XP) (w.heap.size + 1) Y6).block _ (Array.getElem?_eq_some_iff.1 hp1).1 (by simp)).trans hp1
        have hd4 : ((W7.setRow w.heap.size XP).setRow (w.heap.size + 1) Y6).drew.heap[w.heap.size]? = some (.cells XP 35 (0, 0)) := hp4
        have hd3 : ((W7.setRow w.heap.size XP).setRow (w.heap.size + 1) Y6).drew.heap[w.heap.size + 1]? = some (.cells Y6 38 (0, 0)) := hp3
        refine bodyPost_ret (results_cells_tmp (fn := Try.f6) Try.results6 _ _ w.heap.size 35 XP (0, 0) _ rfl hd4 Try.underlying35 rfl (by rw [hPs]; exact info_rpath) (w.heap.size + 1) 38 Y6 (0, 0) _ rfl hd3 Try.underlying38 rfl (by rw [hTs]; exact info_rtunG)) rfl ?_
        have gs1 := grown_rowT W7 w.heap.size XP
        have gs2 := grown_rowT (W7.setRow w.heap.size XP) (w.heap.size + 1) Y6
        rw [HE.out]
        exact ⟨XP, Y6, rfl, HVP.out, (((HTG7.out.grown gs1 (by have := HG5.out; omega)).grown gs2 (by have := HG5.out; omega)).le (by have := HG5.out; omega)).below ((Below.refl _ _).drew), (below_setRow (below_setRow HB7.out (Nat.le_refl _) _) (Nat.le_succ _) _).drew⟩
      · have hne : (OE != 0) = true := by simpa using hoe
        have HE := hide (show R = (zP, zT, OE) by rw [HRR.out, if_pos hoe])
        have HB7 : Hid (Below w.heap.size w (w6.alloc (.cells Y6 38))) := hide (HB.out.trans ((B6.out.alloc B6.out.size _).mono HB.out.size))
        obtain ⟨z7, z7b⟩ := HKZ.out _ (B6.out.alloc B6.out.size (.cells Y6 38))
        obtain ⟨W7, hW7⟩ : ∃ W7, w6.alloc (.cells Y6 38) = W7 := ⟨_, rfl⟩
        rw [hW7] at HB7 z7 z7b
        clear hoe
        go_upto_region 10 with (fail)
        try rw [hW7]
        have hp1 := setRow_heap W7 w.heap.size ZP ZP _ _ z7
        have hp2 : (W7.setRow w.heap.size ZP).heap[w.heap.size + 1]? = some (.cells ZT 38 (0, 0)) := ((setRow_grown W7 w.heap.size ZP).block _ (Array.getElem?_eq_some_iff.1 z7b).1 (by simp)).trans z7b
        go_wp2_with fail
        have hp3 := setRow_heap (W7.setRow w.heap.size ZP) (w.heap.size + 1) ZT ZT _ _ hp2
        have hp4 : ((W7.setRow w.heap.size ZP).setRow (w.heap.size + 1) ZT).heap[w.heap.size]? = some (.cells ZP 35 (0, 0)) := ((setRow_grown (W7.setRow w.heap.size ZP) (w.heap.size + 1) ZT).block _ (Array.getElem?_eq_some_iff.1 hp1).1 (by simp)).trans hp1
        refine bodyPost_ret (results_cells_tmp (fn := Try.f6) Try.results6 _ _ w.heap.size 35 ZP (0, 0) _ rfl hp4 Try.underlying35 rfl (by rw [hZPs]; exact info_rpath) (w.heap.size + 1) 38 ZT (0, 0) _ rfl hp3 Try.underlying38 rfl (by rw [hZTs]; exact info_rtunG)) rfl ?_
        exact unR_err HZP.out HZT.out HE.out (below_setRow (below_setRow (HB7.out) (Nat.le_refl _) _) (Nat.le_succ _) _)
    · have hEb : (segE (pkH l) (pkD l) != 0) = true := by simpa using hE4
      have HE : Hid (R = (zP, zT, segE (pkH l) (pkD l))) := hide (by rw [HR.out]; unfold unwG; rw [if_pos (by rw [hof.out]; exact hE4), hof.out])
      obtain ⟨E, hEE⟩ : ∃ E, E = segE (pkH l) (pkD l) := ⟨_, rfl⟩
      rw [← hEE] at hEb HE ⊢
      obtain ⟨W5, hW5⟩ : ∃ W5, w4.alloc (.cells Y4 61) = W5 := ⟨_, rfl⟩
      rw [hW5] at B5 z5 z5b
      clear hok hne hE4 hEE r5G r4 hGn x1 x2 r5
      dsimp only
      go_upto_region 5 with (fail)
      try rw [hW5]
      have hp1 := setRow_heap W5 w.heap.size ZP ZP _ _ z5
      have hp2 : (W5.setRow w.heap.size ZP).heap[w.heap.size + 1]? = some (.cells ZT 38 (0, 0)) := ((setRow_grown W5 w.heap.size ZP).block _ (Array.getElem?_eq_some_iff.1 z5b).1 (by simp)).trans z5b
      go_wp2_with fail
      have hp3 := setRow_heap (W5.setRow w.heap.size ZP) (w.heap.size + 1) ZT ZT _ _ hp2
      have hp4 : ((W5.setRow w.heap.size ZP).setRow (w.heap.size + 1) ZT).heap[w.heap.size]? = some (.cells ZP 35 (0, 0)) := ((setRow_grown (W5.setRow w.heap.size ZP) (w.heap.size + 1) ZT).block _ (Array.getElem?_eq_some_iff.1 hp1).1 (by simp)).trans hp1
      refine bodyPost_ret (results_cells_tmp (fn := Try.f6) Try.results6 _ _ w.heap.size 35 ZP (0, 0) _ rfl hp4 Try.underlying35 rfl (by rw [hZPs]; exact info_rpath) (w.heap.size + 1) 38 ZT (0, 0) _ rfl hp3 Try.underlying38 rfl (by rw [hZTs]; exact info_rtunG)) rfl ?_
      exact unR_err HZP.out HZT.out HE.out (below_setRow (below_setRow (HB.out.trans (B5.out.mono HB.out.size)) (Nat.le_refl _) _) (Nat.le_succ _) _)
  · have hX := he2 hE
    have V2 : IpV X2 (nIp 0 0 0 0 false) := by rw [hX]; exact nIp_ok _ _ _ _ _
    have h2s := V2.size
    have h2o := V2.one
    have hEb : (pkE l != 0) = true := by simpa using hE
    have HE : Hid (R = (zP, zT, pkE l)) := hide (by rw [HR.out]; unfold unwG seenE; rw [if_pos hE, if_pos hE])
    obtain ⟨E, hEE⟩ : ∃ E, E = pkE l := ⟨_, rfl⟩
    rw [← hEE] at hEb HE ⊢
    have B3 : Hid (Below W.heap.size W (w2.alloc (.cells X2 58))) := hide ((b2.trans (((Below.refl _ _).alloc (Nat.le_refl _) _).mono b2.size)))
    obtain ⟨z3, z3b⟩ := HKZ.out _ B3.out
    obtain ⟨W3, hW3⟩ : ∃ W3, w2.alloc (.cells X2 58) = W3 := ⟨_, rfl⟩
    rw [hW3] at B3 z3 z3b
    clear he2 hok2 hE hX hEE
    dsimp only
    go_upto_region 2 with (fail)
    try rw [hW3]
    have hp1 := setRow_heap W3 w.heap.size ZP ZP _ _ z3
    have hp2 : (W3.setRow w.heap.size ZP).heap[w.heap.size + 1]? = some (.cells ZT 38 (0, 0)) := ((setRow_grown W3 w.heap.size ZP).block _ (Array.getElem?_eq_some_iff.1 z3b).1 (by simp)).trans z3b
    go_wp2_with fail
    have hp3 := setRow_heap (W3.setRow w.heap.size ZP) (w.heap.size + 1) ZT ZT _ _ hp2
    have hp4 : ((W3.setRow w.heap.size ZP).setRow (w.heap.size + 1) ZT).heap[w.heap.size]? = some (.cells ZP 35 (0, 0)) := ((setRow_grown (W3.setRow w.heap.size ZP) (w.heap.size + 1) ZT).block _ (Array.getElem?_eq_some_iff.1 hp1).1 (by simp)).trans hp1
    refine bodyPost_ret (results_cells_tmp (fn := Try.f6) Try.results6 _ _ w.heap.size 35 ZP (0, 0) _ rfl hp4 Try.underlying35 rfl (by rw [hZPs]; exact info_rpath) (w.heap.size + 1) 38 ZT (0, 0) _ rfl hp3 Try.underlying38 rfl (by rw [hZTs]; exact info_rtunG)) rfl ?_
    exact unR_err HZP.out HZT.out HE.out (below_setRow (below_setRow (HB.out.trans (B3.out.mono HB.out.size)) (Nat.le_refl _) _) (Nat.le_succ _) _)
end Go.Proofs.Ytdlilokmfekndaa

end
section
/-
  Whether two ways are one; how many options bytes have at most; the walk of GeneveUnwraps.
-/
namespace Go.Proofs.Ytdlilokmfekndaa
open Go.RowKit
set_option maxRecDepth 100000
set_option linter.unusedVariables false
set_option linter.unusedSimpArgs false
attribute [local go_sem ↓] exec_span exec_put exec_build heap_alloc_new heap_old heap_alloc_drew
attribute [local go_sem] spanQ_ptr spanC_some heap_of_drew heap_of_drewN rs_arr rs_ad rs_tunG rs_rtunG rs_gpath rs_gwpath putAt_ptr putOk_ptr oldOk_some World.setRow_alloc_new setRow_drew

theorem setRow_alloc_oldU (W : World) (o : Obj) (g : Nat) (X : Array Value) (h : g < W.heap.size) : (W.alloc o).setRow g X = (W.setRow g X).alloc o := by
  unfold World.setRow World.alloc
  congr 1
  apply Array.ext_getElem?
  intro i
  simp only [Array.getElem?_modify, Array.getElem?_push, Array.size_modify]
  by_cases hi : i = W.heap.size
  · subst hi; simp; omega
  · simp [hi]
theorem two_boxesU (w : World) : (∀ o : Obj, LtN w.heap.size (w.alloc o).heap.size) ∧ ∀ (o o' : Obj) (X : Array Value), ((w.alloc o).alloc o').setRow w.heap.size X = ((w.alloc o).setRow w.heap.size X).alloc o' :=
  ⟨fun o => by show w.heap.size < _; simp, fun o o' X => setRow_alloc_oldU _ _ _ _ (by simp)⟩
theorem part_adG (X S : Array Value) (o : Nat) (hs : X.size = 37) (ho : o + 17 ≤ 37) (h1 : X.extract o (o + 17) = S) (w : World) : (part 26 X o).run Try.prog w = .ok (.agg S) w := by
  have e1 : (isAgg 26).run Try.prog w = .ok true w := by kernel_rfl
  simp [part, e1, h1]
theorem part_iG (X : Array Value) (o : Nat) (n : Int) (h0 : X[o]? = some (.int .i64 n)) (w : World) : (part 3 X o).run Try.prog w = .ok (.int .i64 n) w := by
  have hu := Try.underlying3
  simp [part, isAgg, run_underlying hu, h0]
theorem fields_gw : (Try.prog.fieldsOf 35).toList.map (fun f => (f.type, f.offset, f.name)) = [(26, 0, "Src"), (26, 17, "Dst"), (3, 34, "Port"), (3, 35, "Ttl"), (3, 36, "Mtu")] := by kernel_rfl
theorem under_gw : Try.prog.underlying 35 = some (.struct (Try.prog.fieldsOf 35)) := by kernel_rfl
theorem held_gw : Try.prog.stoodInHeld 35 = false := by kernel_rfl
theorem list_fiveG {α β : Type} {g : α → β} {a b c d e : β} : ∀ {L : List α}, L.map g = [a, b, c, d, e] → ∃ x y z u v, L = [x, y, z, u, v] ∧ g x = a ∧ g y = b ∧ g z = c ∧ g u = d ∧ g v = e
  | [x, y, z, u, v], h => by simp at h; exact ⟨x, y, z, u, v, rfl, h⟩
  | [], h => by simp at h
  | [_], h => by simp at h
  | [_, _], h => by simp at h
  | [_, _, _], h => by simp at h
  | [_, _, _, _], h => by simp at h
  | _ :: _ :: _ :: _ :: _ :: _ :: _, h => by simp at h
theorem PaV.at {X : Array Value} {p : PaG} (x : PaV X p) : X[34]? = some (.int .i64 p.port) ∧ X[35]? = some (.int .i64 p.ttl) ∧ X[36]? = some (.int .i64 p.mtu) := by
  have e : ∀ j, X[34 + j]? = [Value.int .i64 p.port, .int .i64 p.ttl, .int .i64 p.mtu][j]? := fun j => by
    rw [x.eq, List.getElem?_toArray]
    unfold paL
    rw [List.getElem?_append_right (by rw [lenI_adL x.ls]; omega), List.getElem?_append_right (by rw [lenI_adL x.ls, lenI_adL x.ld]; omega), lenI_adL x.ls, lenI_adL x.ld, show 34 + j - 17 - 17 = j by omega]
  exact ⟨e 0, e 1, e 2⟩
set_option maxHeartbeats 1000000 in
theorem equalIn_gw (d : Nat) (w : World) (X : Array Value) (p : PaG) (h : PaV X p) : (Op.equalIn (d + 5) 35 (.agg X) (.agg X)).run Try.prog w = .ok true w := by
  rw [run_equalIn_struct w (d + 4) 35 X X under_gw held_gw]
  obtain ⟨f0, f1, f2, f3, f4, hfs, e0, e1, e2, e3, e4⟩ := list_fiveG fields_gw
  rw [hfs]
  simp only [Prod.mk.injEq] at e0 e1 e2 e3 e4
  obtain ⟨t0, o0, n0⟩ := e0
  obtain ⟨t1, o1, n1⟩ := e1
  obtain ⟨t2, o2, n2⟩ := e2
  obtain ⟨t3, o3, n3⟩ := e3
  obtain ⟨t4, o4, n4⟩ := e4
  simp only [Op.eqFields, t0, o0, n0, t1, o1, n1, t2, o2, n2, t3, o3, n3, t4, o4, n4]
  rw [if_pos (by decide), if_pos (by decide), if_pos (by decide), if_pos (by decide), if_pos (by decide)]
  obtain ⟨a3, a4, a5⟩ := h.at
  have E1 := equalIn_ad d w _ _ _ _ _ _ (AdV.mk' (v := p.sv) h.ls) (AdV.mk' (v := p.sv) h.ls)
  have E2 := equalIn_ad d w _ _ _ _ _ _ (AdV.mk' (v := p.dv) h.ld) (AdV.mk' (v := p.dv) h.ld)
  have E3 := run_equalIn_int (P := Try.prog) w (d + 3) 3 .i64 .i64 p.port p.port Try.underlying3
  have E4 := run_equalIn_int (P := Try.prog) w (d + 3) 3 .i64 .i64 p.ttl p.ttl Try.underlying3
  have E5 := run_equalIn_int (P := Try.prog) w (d + 3) 3 .i64 .i64 p.mtu p.mtu Try.underlying3
  have P1 := part_adG X _ 0 h.size (by decide) h.src w
  have P2 := part_adG X _ 17 h.size (by decide) h.dst w
  simp only [Sem.run_bind, P1, Result.andThen_ok, E1]
  simp only [beq_self_eq_true, Bool.and_self, Bool.not_true, Bool.false_eq_true, if_false, Bool.true_and, Sem.run_bind, P2, Result.andThen_ok, E2]
  simp only [beq_self_eq_true, Bool.and_self, Bool.not_true, Bool.false_eq_true, if_false, Sem.run_bind, part_iG X _ _ a3, Result.andThen_ok, E3]
  simp only [beq_self_eq_true, Bool.not_true, Bool.false_eq_true, if_false, Sem.run_bind, part_iG X _ _ a4, Result.andThen_ok, E4]
  simp only [beq_self_eq_true, Bool.not_true, Bool.false_eq_true, if_false, Sem.run_bind, part_iG X _ _ a5, Result.andThen_ok, E5]
  simp
theorem eql_gw (w : World) (X : Array Value) (p : PaG) (h : PaV X p) : (binOp .eql 35 (.agg X) (.agg X)).run Try.prog w = .ok (.bool true) w := by
  rw [run_eql_struct, equalIn_gw 9995 w X p h]
  rfl
theorem optsP_count : ∀ (b : List UInt8) (n k : Nat) (acc : List OpD), (optsP b n k acc).1.length ≤ acc.length + n := by
  intro b n
  induction n with
  | zero => intro k acc; exact Nat.le_refl _
  | succ n ih =>
    intro k acc
    unfold optsP
    split
    · simp
    · split
      · simp
      · split
        · simp
        · refine Nat.le_trans (ih _ _) ?_
          rw [List.length_append]; simp; omega
theorem parD_count (b : List UInt8) : (parD b).1.l.length ≤ 252 := by
  unfold parD
  split
  · simp [zT]
  · split
    · simp [zT]
    · next h64 =>
      split
      · simp [zT]
      · split
        · simp [zT]
        · split
          · simp [zT]
          · split
            · simp [zT]
            · have := optsP_count ((b.drop 8).take (4 * atN b 0 1)) (4 * atN b 0 1) 0 []
              simp only [List.length_nil] at this
              show (optsP _ _ 0 []).1.length ≤ 252
              omega
theorem unwG_count (l : List UInt8) : (unwG l).2.1.l.length ≤ 252 := by
  unfold unwG
  split
  · simp [zT]
  · split
    · simp [zT]
    · split
      · simp [zT]
      · exact parD_count _
theorem TuG.sizeU {w : World} {X : Array Value} {T : TuD} (h : TuG w X T) : X.size = 5 := by obtain ⟨_, _, _, _, _, rfl, _⟩ := h; rfl
theorem TuG.oneU {w : World} {X : Array Value} {T : TuD} (h : TuG w X T) : allOne X = true := by obtain ⟨_, _, _, _, _, rfl, _⟩ := h; exact tunA_one _ _ _ _ _ _ _ _ _
theorem TuG.x0U {w : World} {X : Array Value} {T : TuD} (h : TuG w X T) : X.extract 0 5 = X := by obtain ⟨_, _, _, _, _, rfl, _⟩ := h; rfl

set_option maxHeartbeats 8000000 in
theorem geneveUnwraps_any (w : World) (A : Option Addr) (c : Nat) (l : List UInt8) (hb : Byt w w.heap.size A l) (hc : l.length ≤ c) (hn : l.length ≤ 140737488351232) :
    Calls Try.prog 3 #[.slice A l.length c] w fun e w' => e = .returned (.bool true) ∧ Below w.heap.size w w' := by
  have KL := hide (lent_any A c l w.heap.size w hc (by omega) hb (Nat.le_refl _))
  obtain ⟨R, hR⟩ : ∃ R, R = unwG l := ⟨_, rfl⟩
  have hct : R.2.1.l.length ≤ 1048576 := by rw [hR]; exact Nat.le_trans (unwG_count l) (by decide)
  obtain ⟨RP, RT, RE⟩ := R
  have HR := hide hR
  have HCT := hide hct
  have HBY := hide hb
  have HC := hide hc
  have HN := hide hn
  clear hb hc hn hR hct
  go_enter Try.func3, Try.ntmps3
  go_wp2_with fail
  refine KL.out.mono ?_
  rintro e w1 ⟨rfl, L1, b1⟩
  have B1 : Hid (Below w.heap.size w w1) := hide b1
  have HL1 := hide L1
  have KT := unwrapG_any w1 w1.heap.size (some ⟨w.heap.size, 0, none⟩) l (l.length + 8) (Nat.le_add_right _ _) HN.out (L1.byt L1.lt) (Nat.le_refl _)
  rw [← HR.out] at KT
  have HKT := hide KT
  clear KT L1 b1
  dsimp only
  go_wp2_with fail
  refine HKT.out.mono ?_
  rintro e w2 ⟨P2, X2, rfl, pv2, tf2, b2⟩
  have hps := pv2.size
  have hpo := pv2.one
  have hp0 := pv2.x0
  have hxs := tf2.tu.sizeU
  have hxo := tf2.tu.oneU
  have hx0 := tf2.tu.x0U
  obtain ⟨W3, hW3, r3, z3, b3⟩ := alloc_tl w2 (.cells P2 28)
  obtain ⟨W4, hW4, r4, z4, b4⟩ := alloc_tl W3 (.cells X2 31)
  obtain ⟨hk1, hk2⟩ := two_boxesU w2
  have hk3 : LtN w2.heap.size (w2.heap.size + 1) := Nat.lt_succ_self _
  have hk4 : (storeCells ⟨w2.heap.size + 1, 0, none⟩ X2.toList 0).run Try.prog ((w2.alloc (.cells P2 28)).alloc (.cells #[.bool false, .int .i64 0, .int .i64 0, .slice none 0 0, .slice none 0 0] 31)) = .ok () W4   := by rw [hW3, ← z3, ← hW4]; exact run_storeCells_new W3 31 _ X2 (by rw [hxs]; exact info_tunG) (by rw [hxs]; rfl) hxo
  obtain ⟨g4, hg4⟩ : ∃ g, g = w2.heap.size := ⟨_, rfl⟩
  obtain ⟨g5, hg5⟩ : ∃ g, g = w2.heap.size + 1 := ⟨_, rfl⟩
  rw [← hg4] at r3
  rw [z3, ← hg5] at r4
  have r3 := (b4.block g4 (by omega)).trans r3
  have C4 : Hid (Below w1.heap.size w1 W4) := hide (b2.trans ((b3.trans (b4.mono (by omega))).mono b2.size))
  have HB4 : Hid (Below w.heap.size w W4) := hide (B1.out.trans (C4.out.mono B1.out.size))
  have HT4 := hide (tf2.tu.below (b3.trans (b4.mono (by omega))))
  have HG := hide (And.intro hg4 hg5)
  have HL4 : Hid (g4 < W4.heap.size ∧ g5 < W4.heap.size) := hide (by omega)
  have HW := hide (And.intro hW3 hW4)
  have KR := refunwrapG_any W4 W4.heap.size A l c HC.out HN.out ((HBY.out.below HB4.out).more HB4.out.size) (Nat.le_refl _)
  rw [← HR.out] at KR
  have HKR := hide KR
  have HP2 := hide pv2
  have HR34 := hide (And.intro r3 r4)
  clear hW3 hW4 b2 b3 b4 z3 z4 KR tf2 pv2 r3 r4 HKT
  dsimp only
  go_upto_region 3 with (fail)
  try rw [hk4]
  clear hk1 hk2 hk3 hk4
  go_upto_region 3 with (fail)
  try rw [HW.out.1]
  try rw [HW.out.2]
  rw [← HG.out.2, ← HG.out.1]
  clear hg4 hg5
  go_wp2_with fail
  refine HKR.out.mono ?_
  rintro e w5 ⟨P5, X5, rfl, pv5, tf5, b5⟩
  obtain rfl : P5 = P2 := by rw [pv5.eq, HP2.out.eq]
  have hys := tf5.tu.sizeU
  have hyo := tf5.tu.oneU
  have hy0 := tf5.tu.x0U
  have hrp := built_rpG RP pv5.ls pv5.ld
  obtain ⟨W6, hW6, r6, z6, b6⟩ := alloc_tl w5 (.cells P5 35)
  obtain ⟨W7, hW7, r7, z7, b7⟩ := alloc_tl W6 (.cells X5 38)
  obtain ⟨hk1, hk2⟩ := two_boxesU w5
  have hk3 : LtN w5.heap.size (w5.heap.size + 1) := Nat.lt_succ_self _
  have hk4 : (storeCells ⟨w5.heap.size + 1, 0, none⟩ X5.toList 0).run Try.prog ((w5.alloc (.cells P5 35)).alloc (.cells #[.bool false, .int .i64 0, .int .i64 0, .slice none 0 0, .slice none 0 0] 38)) = .ok () W7   := by rw [hW6, ← z6, ← hW7]; exact run_storeCells_new W6 38 _ X5 (by rw [hys]; exact info_rtunG) (by rw [hys]; rfl) hyo
  obtain ⟨g7, hg7⟩ : ∃ g, g = w5.heap.size := ⟨_, rfl⟩
  obtain ⟨g8, hg8⟩ : ∃ g, g = w5.heap.size + 1 := ⟨_, rfl⟩
  rw [← hg7] at r6
  rw [z6, ← hg8] at r7
  have r6 := (b7.block g7 (by omega)).trans r6
  have b57 : Below w5.heap.size w5 W7 := b6.trans (b7.mono (by omega))
  have D7 : Hid (Below W4.heap.size W4 W7) := hide (b5.trans (b57.mono b5.size))
  have HT7 := hide (tf5.tu.below b57)
  have HG7 := hide (And.intro hg7 hg8)
  have hl7 : g7 < W7.heap.size ∧ g8 < W7.heap.size := by omega
  have HKK := hide (fun (W1 : World) (b : Below W7.heap.size W7 W1) => (⟨(b.block g4 (Nat.lt_of_lt_of_le HL4.out.1 D7.out.size)).trans ((D7.out.block g4 HL4.out.1).trans HR34.out.1), (b.block g5 (Nat.lt_of_lt_of_le HL4.out.2 D7.out.size)).trans ((D7.out.block g5 HL4.out.2).trans HR34.out.2), (b.block g7 hl7.1).trans r6, (b.block g8 hl7.2).trans r7⟩ : W1.heap[g4]? = some (.cells P5 28 (0, 0)) ∧ W1.heap[g5]? = some (.cells X2 31 (0, 0)) ∧ W1.heap[g7]? = some (.cells P5 35 (0, 0)) ∧ W1.heap[g8]? = some (.cells X5 38 (0, 0))))
  have HBW := hide (fun (W1 : World) (b : Below W7.heap.size W7 W1) => (HB4.out.trans ((D7.out.trans (b.mono D7.out.size)).mono HB4.out.size) : Below w.heap.size w W1))
  have KK := hide (fun (W1 : World) (b : Below W7.heap.size W7 W1) => kept_any A c w.heap.size l w.heap.size W1 HC.out (by have := HN.out; omega) (HBY.out.below (HBW.out W1 b)) (HL1.out.below (C4.out.trans ((D7.out.trans (b.mono D7.out.size)).mono C4.out.size)) HL1.out.lt))
  have KY := hide (fun (W1 : World) => way_any W1 P5 RP pv5)
  have KA := hide (fun (W1 : World) (b : Below W7.heap.size W7 W1) => takenG_any W1 X2 RT (HT4.out.below (D7.out.trans (b.mono D7.out.size))) HCT.out)
  have KS := hide (fun (W1 : World) (b : Below W7.heap.size W7 W1) (Y6 : Array Value) (tg : TuG W1 Y6 RT) => refsameG_any W1 Y6 X5 RT tg (HT7.out.below b) HCT.out)
  have heq : ∀ W', (binOp .eql 35 (.agg P5) (.agg P5)).run Try.prog W' = .ok (.bool true) W' := fun W' => eql_gw W' P5 RP pv5
  have HW7 := hide (And.intro hW6 hW7)
  obtain ⟨x0, y0, u0, v0⟩ := HKK.out W7.drew (Below.refl W7.heap.size W7).drew
  have D0 : Hid (Below W7.heap.size W7 W7.drew) := hide (Below.refl W7.heap.size W7).drew
  clear hW6 hW7 b5 b6 b7 z6 z7 r6 r7 b57 hl7 pv5 tf5 HKR
  dsimp only
  go_upto_region 4 with (fail)
  try rw [hk4]
  clear hk1 hk2 hk3 hk4
  go_upto_region 4 with (fail)
  try rw [HW7.out.1]
  try rw [HW7.out.2]
  rw [← HG7.out.2, ← HG7.out.1]
  clear hg7 hg8
  go_region_held3 (fun w' => w'.heap[g4]? = some (.cells P5 28 (0, 0)) ∧ w'.heap[g5]? = some (.cells X2 31 (0, 0)) ∧ w'.heap[g7]? = some (.cells P5 35 (0, 0)) ∧ w'.heap[g8]? = some (.cells X5 38 (0, 0)))
    (first
      | exact ⟨x0, y0, u0, v0⟩
      | exact ⟨x1, y1, u1, v1⟩
      | exact ⟨x2, y2, u2, v2⟩
      | exact ⟨x3, y3, u3, v3⟩
      | exact ⟨x5, y5, u5, v5⟩
      | fail)
    (first
      | (go_at_call 7; (with_reducible refine (KY.out W7.drew).mono ?_); rintro e v1w ⟨rfl, c1⟩; have D1 : Hid (Below W7.heap.size W7 v1w) := hide (below_undrew' c1); obtain ⟨x1, y1, u1, v1⟩ := HKK.out v1w D1.out; clear c1)
      | (go_at_call 9; (with_reducible refine (KA.out v1w D1.out).mono ?_); rintro e v2w ⟨Y2, rfl, tg2, c2⟩; have D2 : Hid (Below W7.heap.size W7 v2w) := hide (D1.out.trans (c2.mono D1.out.size)); have T2 := hide tg2; obtain ⟨x2, y2, u2, v2⟩ := HKK.out v2w D2.out; clear c2 tg2)
      | (go_at_call 8; (with_reducible refine (KS.out v2w D2.out Y2 T2.out).mono ?_); rintro e v3w ⟨rfl, c3⟩; have D3 : Hid (Below W7.heap.size W7 v3w) := hide (D2.out.trans (c3.mono D2.out.size)); obtain ⟨x3, y3, u3, v3⟩ := HKK.out v3w D3.out; clear c3)
      | (go_at_call 10; (with_reducible refine (KK.out v3w D3.out).mono ?_); rintro e v4w ⟨rfl, rfl⟩)
      | (go_at_call 11; (with_reducible refine (known7_any v3w).mono ?_); rintro e v5w ⟨rfl, c5⟩; have D5 : Hid (Below W7.heap.size W7 v5w) := hide (D3.out.trans (c5.mono D3.out.size)); obtain ⟨x5, y5, u5, v5⟩ := HKK.out v5w D5.out; clear c5)
      | fail)
  all_goals (
    go_wp2
    go_ret
    exact ⟨rfl, HBW.out v5w D5.out⟩)
end Go.Proofs.Ytdlilokmfekndaa

end
