/-
  The walk of the document's own Parse of a packet: two bytes as a number, an address at a place.
-/
import Derived.Test.YtcfckhdohcaffaaIw
import Derived.Test.YtcfckhdohcaffaaBits
import Derived.Test.YtcfckhdohcaffaaMad
import Derived.Deep.RegionHeld3
namespace Go.Proofs.Ytcfckhdohcaffaa
open Go.RowKit
attribute [local go_sem ↓] exec_span exec_put exec_build heap_alloc_new heap_old
attribute [local go_sem] spanQ_ptr spanC_some heap_of_drew heap_of_drewN rs_arr rs_ad rs_ip rs_rip putAt_ptr putOk_ptr oldOk_some World.setRow_alloc_new
set_option maxRecDepth 100000
set_option linter.unusedVariables false
set_option linter.unusedSimpArgs false

theorem numS_pair (x y : UInt8) : numS [x, y] = x.toNat * 256 + y.toNat := by
  simp [numS]
theorem nmB_pair {l : List UInt8} {k : Nat} (hk : k + 1 < l.length) : nmB l k 2 = l[k].toNat * 256 + l[k + 1].toNat := by
  unfold nmB
  rw [List.drop_eq_getElem_cons (by omega), List.drop_eq_getElem_cons hk]
  show numS [l[k], l[k + 1]] = _
  exact numS_pair _ _
theorem or_pair (x y : UInt8) : bits .or .i64 ((x.toNat : Int) * 256) (y.toNat : Int) = ((x.toNat * 256 + y.toNat : Nat) : Int) := by
  have hx := x.toNat_lt
  have hy := y.toNat_lt
  rw [← i64_or_join 8 (x.toNat * 256) y.toNat (by omega) (by omega) (by omega) (by omega)]
  rw [Int.natCast_mul]
  rfl
set_option maxHeartbeats 2000000 in
theorem two4_any (w : World) (B : Nat) (A : Option Addr) (c : Nat) (l : List UInt8) (k : Nat) (hk : k + 1 < l.length) (hk2 : k ≤ 100) (hn : l.length ≤ 140737488355328) (hb : Byt w B A l) :
    Calls Try.prog 99 #[.slice A l.length c, .int .i64 (k : Int)] w fun e w' => e = .returned (.int .i64 ((nmB l k 2 : Nat) : Int)) ∧ Below w.heap.size w w' := by
  obtain ⟨b, off, rfl, -, hc⟩ := hb (by omega)
  have c0 := hc k (by omega)
  have c1 := hc (k + 1) hk
  obtain ⟨x, hx⟩ : ∃ x, x = l[k] := ⟨_, rfl⟩
  obtain ⟨y, hy⟩ : ∃ y, y = l[k + 1] := ⟨_, rfl⟩
  rw [nmB_pair hk]
  rw [← hx] at c0 ⊢
  rw [← hy] at c1 ⊢
  have HO := hide (or_pair x y)
  obtain ⟨xn, hxn⟩ : ∃ n, n = x.toNat := ⟨_, rfl⟩
  obtain ⟨yn, hyn⟩ : ∃ n, n = y.toNat := ⟨_, rfl⟩
  have hx8 : xn ≤ 255 := by have := x.toNat_lt; omega
  have hy8 : yn ≤ 255 := by have := y.toNat_lt; omega
  rw [← hxn, ← hyn] at HO
  rw [← hxn] at c0
  rw [← hyn] at c1
  rw [← hxn, ← hyn]
  obtain ⟨r, hr⟩ : ∃ r : Nat, r = xn * 256 + yn := ⟨_, rfl⟩
  rw [← hr] at HO ⊢
  obtain ⟨n, hnn⟩ : ∃ n, n = l.length := ⟨_, rfl⟩
  rw [← hnn] at hn hk ⊢
  have hkn : (k : Int) < (n : Int) := by omega
  have hkn1 : ((k + 1 : Nat) : Int) < (n : Int) := by omega
  have wk : IntKind.i64.wrap ((k : Int) + 1) = ((k + 1 : Nat) : Int) := by rw [show (k : Int) + 1 = ((k + 1 : Nat) : Int) by omega]; exact IntWalk.i64_in _ (by omega)
  have wx : IntKind.i64.wrap (xn : Int) = (xn : Int) := IntWalk.i64_in _ (by omega)
  have wy : IntKind.i64.wrap (yn : Int) = (yn : Int) := IntWalk.i64_in _ (by omega)
  have ws : IntKind.i64.wrap ((xn : Int) * 256) = (xn : Int) * 256 := IntWalk.i64_in _ (by omega)
  have ho := HO.out
  clear hx hy hxn hyn hr hnn hb hc hk hk2 hn HO hx8 hy8
  go_enter Try.func99, Try.ntmps99
  go_wp2
  go_quiet (fail)
  go_wp2
  go_ret
  exact ⟨rfl, ⟨rfl, rfl, rfl, Nat.le_refl _, fun _ _ => rfl⟩⟩
set_option maxHeartbeats 2000000 in
theorem taken4_any (w : World) (B : Nat) (A : Option Addr) (c : Nat) (l : List UInt8) (k m : Nat) (v : Bool) (hm : m = 4 ∧ v = false ∨ m = 16 ∧ v = true) (hk : k + m ≤ l.length) (hlc : l.length ≤ c) (hk2 : k ≤ 100) (hn : l.length ≤ 140737488355328) (hb : Byt w B A l) (hB : B ≤ w.heap.size) :
    Calls Try.prog 100 #[.slice A l.length c, .int .i64 (k : Int), .int .i64 (m : Int)] w fun e w' => (∃ Y, e = .returned (.agg Y) ∧ AdV Y v (pad16 ((l.drop k).take m))) ∧ Below w.heap.size w w' := by
  have hm0 : 1 ≤ m := by omega
  obtain ⟨b, off, rfl, hbB, hc⟩ := hb (by omega)
  obtain ⟨S, hS⟩ : ∃ S, S = (l.drop k).take m := ⟨_, rfl⟩
  have hSl : S.length = m := by rw [hS, List.length_take, List.length_drop]; omega
  have hbS : Byt w B (some ⟨b, off + k, none⟩) S := fun h0 => ⟨b, off + k, rfl, hbB, fun i hi => by
    have h1 : i < m := by omega
    have e := hc (k + i) (by omega)
    rw [Nat.add_assoc]
    rw [e]
    congr 3
    subst hS
    rw [List.getElem_take, List.getElem_drop]⟩
  have K : Hid (∀ W1 : World, Below w.heap.size w W1 → Calls Try.prog 118 #[.slice (some ⟨b, off + k, none⟩) m (c - k)] W1 fun e w' => (∃ Y, e = .returned (.tuple #[.agg Y, .int .i64 0]) ∧ AdV Y v (pad16 S)) ∧ Below W1.heap.size W1 w') := hide (fun W1 b1 => by
    have hb1 : Byt W1 B (some ⟨b, off + k, none⟩) S := hbS.below (b1.mono hB)
    have hB1 : B ≤ W1.heap.size := Nat.le_trans hB b1.size
    rcases hm with ⟨rfl, rfl⟩ | ⟨rfl, rfl⟩
    · exact refof_4 W1 _ _ S B hSl hb1 hB1
    · exact refof_16 W1 _ _ S B hSl hb1 hB1)
  rw [← hS]
  clear hS hSl hbS hc hbB hb
  obtain ⟨n, hnn⟩ : ∃ n, n = l.length := ⟨_, rfl⟩
  rw [← hnn] at hn hk hlc ⊢
  have wk : IntKind.i64.wrap ((k : Int) + (m : Int)) = ((k + m : Nat) : Int) := by rw [show (k : Int) + (m : Int) = ((k + m : Nat) : Int) by omega]; exact IntWalk.i64_in _ (by omega)
  have h1 : (k : Int) ≤ ((k + m : Nat) : Int) := by omega
  have h2 : ((k + m : Nat) : Int) ≤ (c : Int) := by omega
  have h3 : (0 : Int) ≤ ((k + m : Nat) : Int) := by omega
  have h4 : k + m - k = m := by omega
  have h5 : ¬ c = k := by omega
  have h6 : k < c := by omega
  clear hnn hm hm0 hk hlc hk2 hn
  obtain ⟨q, hq⟩ : ∃ q, q = k + m := ⟨_, rfl⟩
  rw [← hq] at wk h1 h2 h3 h4
  have b0 : Below w.heap.size w (w.alloc (.cells (adL false (List.replicate 16 0)).toArray 24)) := (Below.refl _ _).alloc (Nat.le_refl _) _
  have hB0 := hide b0
  have HR := hide (heap_alloc_new w (.cells (adL false (List.replicate 16 0)).toArray 24))
  have hs0 : Hid ((w.alloc (.cells (adL false (List.replicate 16 0)).toArray 24)).heap.size = w.heap.size + 1) := hide (World.size_alloc _ _)
  clear hq b0 hB
  go_enter Try.func100, Try.ntmps100
  go_upto_region 1 with (fail)
  change Code.wp _ _ _ _ (w.alloc (.cells (adL false (List.replicate 16 0)).toArray 24))
  obtain ⟨W, hW⟩ : ∃ W, W = w.alloc (.cells (adL false (List.replicate 16 0)).toArray 24) := ⟨_, rfl⟩
  rw [← hW] at hB0 HR hs0 ⊢
  clear hW
  go_wp2_with fail
  refine (K.out W hB0.out).mono ?_
  rintro e w2 ⟨⟨Y, rfl, hY⟩, b2⟩
  have hYs := hY.size
  have hYo : allOne Y = true := hY.one
  have hYe : Y.extract 0 17 = Y := by rw [← hYs]; simp
  have HY := hide hY
  have r2 := (b2.block w.heap.size (by have := hs0.out; omega)).trans HR.out
  have n2 : Hid (w.heap.size < w2.heap.size) := hide (by have := hs0.out; have := b2.size; omega)
  have B2 : Hid (Below w.heap.size w w2) := hide (hB0.out.trans (b2.mono hB0.out.size))
  have b3 : Below w2.heap.size w2 (w2.alloc (.cells Y 24)) := (Below.refl _ _).alloc (Nat.le_refl _) _
  have r3 := (b3.block w.heap.size n2.out).trans r2
  have B3 := hide (B2.out.trans (b3.mono B2.out.size))
  have ry := heap_alloc_new w2 (.cells Y 24)
  clear K hY b2 r2 b3
  dsimp only
  go_upto_region 2 with (fail)
  obtain ⟨z, hz⟩ : ∃ z, z = w2.heap.size := ⟨_, rfl⟩
  obtain ⟨w3, hw3⟩ : ∃ w3, w3 = w2.alloc (.cells Y 24) := ⟨_, rfl⟩
  rw [← hw3, ← hz] at ry ⊢
  rw [← hw3] at r3 B3
  clear hw3 hz
  obtain ⟨Z0, hZ0⟩ : ∃ Z0, Z0 = (adL false (List.replicate 16 0)).toArray := ⟨_, rfl⟩
  have r3' : w3.heap[w.heap.size]? = some (.cells Z0 24 (0, 0)) := by rw [hZ0]; exact r3
  have hZs : Z0.size = 17 := by rw [hZ0]; rfl
  clear r3 hZ0
  go_wp2_with fail
  have hrow := setRow_heap w3 w.heap.size _ Y _ _ r3'
  refine bodyPost_ret (results_cell_row (fn := Try.f100) Try.results100 _ _ w.heap.size 24 Y (0, 0) _ rfl hrow Try.underlying24 rfl (by rw [hYs]; exact info_ad)) rfl ?_
  exact ⟨⟨Y, rfl, HY.out⟩, below_setRow B3.out (Nat.le_refl _) _⟩
/-- an append of bytes as a step of a drawn region. -/
theorem step_app_bytesP {ops : Array Oper} {o : Oper} {a : Act} {w : World} {K' : Act → World → Prop} {Q : Exit → Act → World → Prop} {E : Prop} (hgd : o.guard = none) (s x : Operand) (ho : o.op = .call { callee := .builtin .append, args := #[s, x], argTypes := #[25, 25] })
    (base : Nat) (v : Value) (l0 l : List UInt8) (B n c : Nat) (A : Option Addr) (hs : a.eval s = v) (hx : a.eval x = .slice A n c) (hll : l.length = n) (hown : OwnB w base v l0) (hb : Byt w B A l) (hnil : A = none → c = 0) (hlen : l0.length + l.length ≤ 140737488355328) (hbase : base ≤ w.heap.size)
    (h : ∀ v' w', OwnB w' base v' (l0 ++ l) → w.grownBy w' v.ownBlock → (v'.ownBlock = v.ownBlock ∨ v'.ownBlock = some w.heap.size) → K' (a.put o.dst v') w') : if Region.wanted o (yielded ops a.tmps) = true then Oper.wp Try.prog o a w K' Q else E := by
  have hw : Region.wanted o (yielded ops a.tmps) = true := by simp [Region.wanted, hgd]
  rw [if_pos hw]
  subst hll
  obtain ⟨v', w', hr, h2, h3, h4⟩ := run_app_bytes w base o.type v l0 l B c A hown hb hnil hlen hbase
  unfold Oper.wp execOp
  simp only [ho, resolve, invoke, builtin, Sem.run_bind, Sem.run_pure, Result.andThen_ok, List.map_toArray, List.map_cons, List.map_nil, hs, hx, hr]
  exact h v' w' h2 h3 h4
end Go.Proofs.Ytcfckhdohcaffaa
