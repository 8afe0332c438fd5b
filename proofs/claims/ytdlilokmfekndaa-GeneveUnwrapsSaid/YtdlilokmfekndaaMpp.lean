import Derived.Test.YtdlilokmfekndaaIw
import Derived.Test.YtdlilokmfekndaaBits
import Derived.Test.YtdlilokmfekndaaMad
import Derived.Deep.RegionHeld3
import Derived.Test.YtdlilokmfekndaaMjv
import Derived.Test.YtdlilokmfekndaaJb
import Derived.Deep.CutRange
import Derived.Deep.RegionLaw
section
/-
  The walk of the document's own Parse of a packet: two bytes as a number, an address at a place.
-/
namespace Go.Proofs.Ytdlilokmfekndaa
open Go.RowKit
attribute [local go_sem ↓] exec_span exec_put exec_build heap_alloc_new heap_old
attribute [local go_sem] spanQ_ptr spanC_some heap_of_drew heap_of_drewN rs_arr rs_ad rs_ip rs_rip putAt_ptr putOk_ptr oldOk_some World.setRow_alloc_new
set_option maxRecDepth 100000
set_option linter.unusedVariables false
set_option linter.unusedSimpArgs false

theorem numS_pair (x y : UInt8) : numS [x, y] = x.toNat * 256 + y.toNat := by
  simp [numS]
theorem nmB_pair {l : List UInt8} {k : Nat} (hk : k + 1 < l.length) : nmB l k 2 = l[k].toNat * 256 + l[k + 1].toNat := by
  unfold nmB
  rw [List.drop_eq_getElem_cons (by omega), List.drop_eq_getElem_cons hk]
  show numS [l[k], l[k + 1]] = _
  exact numS_pair _ _
theorem or_pair (x y : UInt8) : bits .or .i64 ((x.toNat : Int) * 256) (y.toNat : Int) = ((x.toNat * 256 + y.toNat : Nat) : Int) := by
  have hx := x.toNat_lt
  have hy := y.toNat_lt
  rw [← i64_or_join 8 (x.toNat * 256) y.toNat (by omega) (by omega) (by omega) (by omega)]
  rw [Int.natCast_mul]
  rfl
set_option maxHeartbeats 2000000 in
theorem two4_any (w : World) (B : Nat) (A : Option Addr) (c : Nat) (l : List UInt8) (k : Nat) (hk : k + 1 < l.length) (hk2 : k ≤ 100) (hn : l.length ≤ 140737488355328) (hb : Byt w B A l) :
    Calls Try.prog 56 #[.slice A l.length c, .int .i64 (k : Int)] w fun e w' => e = .returned (.int .i64 ((nmB l k 2 : Nat) : Int)) ∧ Below w.heap.size w w' := by
  obtain ⟨b, off, rfl, -, hc⟩ := hb (by omega)
  have c0 := hc k (by omega)
  have c1 := hc (k + 1) hk
  obtain ⟨x, hx⟩ : ∃ x, x = l[k] := ⟨_, rfl⟩
  obtain ⟨y, hy⟩ : ∃ y, y = l[k + 1] := ⟨_, rfl⟩
  rw [nmB_pair hk]
  rw [← hx] at c0 ⊢
  rw [← hy] at c1 ⊢
  have HO := hide (or_pair x y)
  obtain ⟨xn, hxn⟩ : ∃ n, n = x.toNat := ⟨_, rfl⟩
  obtain ⟨yn, hyn⟩ : ∃ n, n = y.toNat := ⟨_, rfl⟩
  have hx8 : xn ≤ 255 := by have := x.toNat_lt; omega
  have hy8 : yn ≤ 255 := by have := y.toNat_lt; omega
  rw [← hxn, ← hyn] at HO
  rw [← hxn] at c0
  rw [← hyn] at c1
  rw [← hxn, ← hyn]
  obtain ⟨r, hr⟩ : ∃ r : Nat, r = xn * 256 + yn := ⟨_, rfl⟩
  rw [← hr] at HO ⊢
  obtain ⟨n, hnn⟩ : ∃ n, n = l.length := ⟨_, rfl⟩
  rw [← hnn] at hn hk ⊢
  have hkn : (k : Int) < (n : Int) := by omega
  have hkn1 : ((k + 1 : Nat) : Int) < (n : Int) := by omega
  have wk : IntKind.i64.wrap ((k : Int) + 1) = ((k + 1 : Nat) : Int) := by rw [show (k : Int) + 1 = ((k + 1 : Nat) : Int) by omega]; exact IntWalk.i64_in _ (by omega)
  have wx : IntKind.i64.wrap (xn : Int) = (xn : Int) := IntWalk.i64_in _ (by omega)
  have wy : IntKind.i64.wrap (yn : Int) = (yn : Int) := IntWalk.i64_in _ (by omega)
  have ws : IntKind.i64.wrap ((xn : Int) * 256) = (xn : Int) * 256 := IntWalk.i64_in _ (by omega)
  have ho := HO.out
  clear hx hy hxn hyn hr hnn hb hc hk hk2 hn HO hx8 hy8
  go_enter Try.func56, Try.ntmps56
  go_wp2
  go_quiet (fail)
  go_wp2
  go_ret
  exact ⟨rfl, ⟨rfl, rfl, rfl, Nat.le_refl _, fun _ _ => rfl⟩⟩
set_option maxHeartbeats 2000000 in
theorem taken4_any (w : World) (B : Nat) (A : Option Addr) (c : Nat) (l : List UInt8) (k m : Nat) (v : Bool) (hm : m = 4 ∧ v = false ∨ m = 16 ∧ v = true) (hk : k + m ≤ l.length) (hlc : l.length ≤ c) (hk2 : k ≤ 100) (hn : l.length ≤ 140737488355328) (hb : Byt w B A l) (hB : B ≤ w.heap.size) :
    Calls Try.prog 58 #[.slice A l.length c, .int .i64 (k : Int), .int .i64 (m : Int)] w fun e w' => (∃ Y, e = .returned (.agg Y) ∧ AdV Y v (pad16 ((l.drop k).take m))) ∧ Below w.heap.size w w' := by
  have hm0 : 1 ≤ m := by omega
  obtain ⟨b, off, rfl, hbB, hc⟩ := hb (by omega)
  obtain ⟨S, hS⟩ : ∃ S, S = (l.drop k).take m := ⟨_, rfl⟩
  have hSl : S.length = m := by rw [hS, List.length_take, List.length_drop]; omega
  have hbS : Byt w B (some ⟨b, off + k, none⟩) S := fun h0 => ⟨b, off + k, rfl, hbB, fun i hi => by
    have h1 : i < m := by omega
    have e := hc (k + i) (by omega)
    rw [Nat.add_assoc]
    rw [e]
    congr 3
    subst hS
    rw [List.getElem_take, List.getElem_drop]⟩
  have K : Hid (∀ W1 : World, Below w.heap.size w W1 → Calls Try.prog 75 #[.slice (some ⟨b, off + k, none⟩) m (c - k)] W1 fun e w' => (∃ Y, e = .returned (.tuple #[.agg Y, .int .i64 0]) ∧ AdV Y v (pad16 S)) ∧ Below W1.heap.size W1 w') := hide (fun W1 b1 => by
    have hb1 : Byt W1 B (some ⟨b, off + k, none⟩) S := hbS.below (b1.mono hB)
    have hB1 : B ≤ W1.heap.size := Nat.le_trans hB b1.size
    rcases hm with ⟨rfl, rfl⟩ | ⟨rfl, rfl⟩
    · exact refof_4 W1 _ _ S B hSl hb1 hB1
    · exact refof_16 W1 _ _ S B hSl hb1 hB1)
  rw [← hS]
  clear hS hSl hbS hc hbB hb
  obtain ⟨n, hnn⟩ : ∃ n, n = l.length := ⟨_, rfl⟩
  rw [← hnn] at hn hk hlc ⊢
  have wk : IntKind.i64.wrap ((k : Int) + (m : Int)) = ((k + m : Nat) : Int) := by rw [show (k : Int) + (m : Int) = ((k + m : Nat) : Int) by omega]; exact IntWalk.i64_in _ (by omega)
  have h1 : (k : Int) ≤ ((k + m : Nat) : Int) := by omega
  have h2 : ((k + m : Nat) : Int) ≤ (c : Int) := by omega
  have h3 : (0 : Int) ≤ ((k + m : Nat) : Int) := by omega
  have h4 : k + m - k = m := by omega
  have h5 : ¬ c = k := by omega
  have h6 : k < c := by omega
  clear hnn hm hm0 hk hlc hk2 hn
  obtain ⟨q, hq⟩ : ∃ q, q = k + m := ⟨_, rfl⟩
  rw [← hq] at wk h1 h2 h3 h4
  have b0 : Below w.heap.size w (w.alloc (.cells (adL false (List.replicate 16 0)).toArray 26)) := (Below.refl _ _).alloc (Nat.le_refl _) _
  have hB0 := hide b0
  have HR := hide (heap_alloc_new w (.cells (adL false (List.replicate 16 0)).toArray 26))
  have hs0 : Hid ((w.alloc (.cells (adL false (List.replicate 16 0)).toArray 26)).heap.size = w.heap.size + 1) := hide (World.size_alloc _ _)
  clear hq b0 hB
  go_enter Try.func58, Try.ntmps58
  go_upto_region 1 with (fail)
  change Code.wp _ _ _ _ (w.alloc (.cells (adL false (List.replicate 16 0)).toArray 26))
  obtain ⟨W, hW⟩ : ∃ W, W = w.alloc (.cells (adL false (List.replicate 16 0)).toArray 26) := ⟨_, rfl⟩
  rw [← hW] at hB0 HR hs0 ⊢
  clear hW
  go_wp2_with fail
  refine (K.out W hB0.out).mono ?_
  rintro e w2 ⟨⟨Y, rfl, hY⟩, b2⟩
  have hYs := hY.size
  have hYo : allOne Y = true := hY.one
  have hYe : Y.extract 0 17 = Y := by rw [← hYs]; simp
  have HY := hide hY
  have r2 := (b2.block w.heap.size (by have := hs0.out; omega)).trans HR.out
  have n2 : Hid (w.heap.size < w2.heap.size) := hide (by have := hs0.out; have := b2.size; omega)
  have B2 : Hid (Below w.heap.size w w2) := hide (hB0.out.trans (b2.mono hB0.out.size))
  have b3 : Below w2.heap.size w2 (w2.alloc (.cells Y 26)) := (Below.refl _ _).alloc (Nat.le_refl _) _
  have r3 := (b3.block w.heap.size n2.out).trans r2
  have B3 := hide (B2.out.trans (b3.mono B2.out.size))
  have ry := heap_alloc_new w2 (.cells Y 26)
  clear K hY b2 r2 b3
  dsimp only
  go_upto_region 2 with (fail)
  obtain ⟨z, hz⟩ : ∃ z, z = w2.heap.size := ⟨_, rfl⟩
  obtain ⟨w3, hw3⟩ : ∃ w3, w3 = w2.alloc (.cells Y 26) := ⟨_, rfl⟩
  rw [← hw3, ← hz] at ry ⊢
  rw [← hw3] at r3 B3
  clear hw3 hz
  obtain ⟨Z0, hZ0⟩ : ∃ Z0, Z0 = (adL false (List.replicate 16 0)).toArray := ⟨_, rfl⟩
  have r3' : w3.heap[w.heap.size]? = some (.cells Z0 26 (0, 0)) := by rw [hZ0]; exact r3
  have hZs : Z0.size = 17 := by rw [hZ0]; rfl
  clear r3 hZ0
  go_wp2_with fail
  have hrow := setRow_heap w3 w.heap.size _ Y _ _ r3'
  refine bodyPost_ret (results_cell_row (fn := Try.f58) Try.results58 _ _ w.heap.size 26 Y (0, 0) _ rfl hrow Try.underlying26 rfl (by rw [hYs]; exact info_ad)) rfl ?_
  exact ⟨⟨Y, rfl, HY.out⟩, below_setRow B3.out (Nat.le_refl _) _⟩
/-- an append of bytes as a step of a drawn region. -/
theorem step_app_bytesP {ops : Array Oper} {o : Oper} {a : Act} {w : World} {K' : Act → World → Prop} {Q : Exit → Act → World → Prop} {E : Prop} (hgd : o.guard = none) (s x : Operand) (ho : o.op = .call { callee := .builtin .append, args := #[s, x], argTypes := #[22, 22] })
    (base : Nat) (v : Value) (l0 l : List UInt8) (B n c : Nat) (A : Option Addr) (hs : a.eval s = v) (hx : a.eval x = .slice A n c) (hll : l.length = n) (hown : OwnB w base v l0) (hb : Byt w B A l) (hnil : A = none → c = 0) (hlen : l0.length + l.length ≤ 140737488355328) (hbase : base ≤ w.heap.size)
    (h : ∀ v' w', OwnB w' base v' (l0 ++ l) → w.grownBy w' v.ownBlock → (v'.ownBlock = v.ownBlock ∨ v'.ownBlock = some w.heap.size) → K' (a.put o.dst v') w') : if Region.wanted o (yielded ops a.tmps) = true then Oper.wp Try.prog o a w K' Q else E := by
  have hw : Region.wanted o (yielded ops a.tmps) = true := by simp [Region.wanted, hgd]
  rw [if_pos hw]
  subst hll
  obtain ⟨v', w', hr, h2, h3, h4⟩ := run_app_bytes w base o.type v l0 l B c A hown hb hnil hlen hbase
  unfold Oper.wp execOp
  simp only [ho, resolve, invoke, builtin, Sem.run_bind, Sem.run_pure, Result.andThen_ok, List.map_toArray, List.map_cons, List.map_nil, hs, hx, hr]
  exact h v' w' h2 h3 h4
end Go.Proofs.Ytdlilokmfekndaa

end
section
/-
  The walk of the document's own Parse of a packet of four.
-/
namespace Go.Proofs.Ytdlilokmfekndaa
open Go.RowKit
attribute [local go_sem ↓] exec_span exec_put exec_build heap_alloc_new heap_old
attribute [local go_sem] spanQ_ptr spanC_some heap_of_drew heap_of_drewN rs_arr rs_ad rs_ip rs_rip putAt_ptr putOk_ptr oldOk_some World.setRow_alloc_new
set_option maxRecDepth 100000
set_option linter.unusedVariables false
set_option linter.unusedSimpArgs false

theorem built_noneRI : Try.prog.built 58 [] = some (ipL (nIp 0 0 0 0 false)).toArray := by kernel_rfl
theorem built_fA (a b c d : Int) (f : Bool) (b0 b1 b2 b3 b4 b5 b6 b7 b8 b9 b10 b11 b12 b13 b14 b15 c0 c1 c2 c3 c4 c5 c6 c7 c8 c9 c10 c11 c12 c13 c14 c15 : UInt8) :
    Try.prog.built 58 [(1, .agg (adL false [b0, b1, b2, b3, b4, b5, b6, b7, b8, b9, b10, b11, b12, b13, b14, b15]).toArray), (2, .agg (adL false [c0, c1, c2, c3, c4, c5, c6, c7, c8, c9, c10, c11, c12, c13, c14, c15]).toArray), (3, .int .i64 a), (4, .int .i64 b), (5, .int .i64 c), (6, .int .i64 d), (7, .bool f)] = some (ipL (sIp a b c d f [b0, b1, b2, b3, b4, b5, b6, b7, b8, b9, b10, b11, b12, b13, b14, b15] [c0, c1, c2, c3, c4, c5, c6, c7, c8, c9, c10, c11, c12, c13, c14, c15])).toArray := by kernel_rfl
theorem built_f4 (a b c d : Int) (f : Bool) (S D : List UInt8) (ls : S.length = 16) (ld : D.length = 16) : Try.prog.built 58 [(1, .agg (adL false S).toArray), (2, .agg (adL false D).toArray), (3, .int .i64 a), (4, .int .i64 b), (5, .int .i64 c), (6, .int .i64 d), (7, .bool f)] = some (ipL (sIp a b c d f S D)).toArray := by
  match S, D, ls, ld with
  | [_, _, _, _, _, _, _, _, _, _, _, _, _, _, _, _], [_, _, _, _, _, _, _, _, _, _, _, _, _, _, _, _], _, _ => exact built_fA _ _ _ _ _ _ _ _ _ _ _ _ _ _ _ _ _ _ _ _ _ _ _ _ _ _ _ _ _ _ _ _ _ _ _ _ _
theorem nmB_at4 {D : List UInt8} {k : Nat} (hk : k < D.length) : nmB D k 1 = (D[k]).toNat := by
  unfold nmB
  rw [List.drop_eq_getElem_cons hk]
  show numS [D[k]] = _
  simp [numS]
/-- bytes that were taken, their block behind z. -/
def TkH (z : Nat) (W : World) (A : Option Addr) (c : Nat) (L : List UInt8) : Prop := Byt W W.heap.size A L ∧ L.length ≤ c ∧ (A = none → c = 0) ∧ ∀ a, A = some a → z < a.block
theorem TkH.grown {z : Nat} {i : Option Nat} {W W' : World} {A : Option Addr} {c : Nat} {L : List UInt8} (h : TkH z W A c L) (hg : W.grownBy W' i) (hi : ∀ j, i = some j → j ≤ z ∨ W.heap.size ≤ j) : TkH z W' A c L :=
  ⟨(fun hl => by
    obtain ⟨b, off, e, hb, hc⟩ := h.1 hl
    have hz := h.2.2.2 _ e
    exact ⟨b, off, e, Nat.lt_of_lt_of_le hb hg.size, fun k hk => (World.cell?_of_block (w := W) (hg.block b (by omega) (by intro e2; rcases hi _ e2.symm with h1 | h1 <;> simp at hz <;> omega))).trans (hc k hk)⟩), h.2⟩
theorem TkH.gave {z : Nat} {w W : World} {A : Option Addr} {c : Nat} {L : List UInt8} (h : TkH z W A c L) (hz : w.heap.size ≤ z) : Gave w W A c L :=
  ⟨h.1, h.2.1, h.2.2.1, fun a e => by have := h.2.2.2 a e; omega⟩
theorem OwnB.tkh {z B : Nat} {W : World} {v : Value} {L : List UInt8} (h : OwnB W B v L) (hz : z < B) : ∃ A c, v = .slice A L.length c ∧ TkH z W A c L := by
  obtain ⟨A, c, rfl, hc, hb, hn, ha⟩ := h.shape
  exact ⟨A, c, rfl, hb, hc, hn, fun a e => by have := (ha a e).1; omega⟩
/-- the packet that is read so far. -/
def FourQ (W wx : World) (p : Value) (V : Ip) : Prop := ∃ z Yp, p = .pointer (some ⟨z, 0, none⟩) ∧ wx.heap[z]? = some (.cells Yp 58 (0, 0)) ∧ IpV Yp V ∧ Below W.heap.size W wx ∧ W.heap.size ≤ z
set_option maxHeartbeats 8000000 in
theorem reffour_any (w : World) (B : Nat) (A : Option Addr) (c : Nat) (l : List UInt8) (hlc : l.length ≤ c) (hn : l.length ≤ 140737488355328) (hb : Byt w B A l) (hB : B ≤ w.heap.size) :
    Calls Try.prog 30 #[.slice A l.length c] w fun e w' => P4 w l e w' := by
  obtain ⟨Z, hZ⟩ : ∃ Z, Z = (ipL (nIp 0 0 0 0 false)).toArray := ⟨_, rfl⟩
  have hbn := built_noneRI
  rw [← hZ] at hbn
  have VZ : IpV Z (nIp 0 0 0 0 false) := by rw [hZ]; exact nIp_ok _ _ _ _ _
  have hZs : Z.size = 43 := VZ.size
  have hZo : allOne Z = true := VZ.one
  have HZE := hide hZ
  obtain ⟨W, hW⟩ : ∃ W, w.alloc (.cells Z 58) = W := ⟨_, rfl⟩
  have zr : W.heap[w.heap.size]? = some (.cells Z 58 (0, 0)) := by rw [← hW]; exact heap_alloc_new w _
  have hbW : Below w.heap.size w W := by rw [← hW]; exact (Below.refl _ _).alloc (Nat.le_refl _) _
  have HB := hide hbW
  have HZR := hide zr
  have HW := hide hW
  have HM := hide hn
  have HLC := hide hlc
  have HBB := hide hB
  have HBY := hide hb
  have hWs : Hid (W.heap.size = w.heap.size + 1) := hide (by rw [← hW]; exact World.size_alloc _ _)
  have HK : Hid (∀ W1 : World, Below W.heap.size W W1 → W1.heap[w.heap.size]? = some (.cells Z 58 (0, 0)) ∧ Below w.heap.size w W1 ∧ Byt W1 B A l ∧ B ≤ W1.heap.size) := hide (fun W1 b1 => by
    have h1 := HB.out.trans (b1.mono HB.out.size)
    exact ⟨(b1.block _ (by have := hWs.out; omega)).trans HZR.out, h1, HBY.out.below (h1.mono HBB.out), Nat.le_trans HBB.out h1.size⟩)
  by_cases h20 : l.length < 20
  · have hE : Hid (p4E l = 10) := hide (by unfold p4E; rw [if_pos h20])
    have hlt : (l.length : Int) < 20 := by omega
    clear hZ hW hbW hlc hn hb hB VZ
    go_enter Try.func30, Try.ntmps30
    go_upto_region 1 with (fail)
    change Code.wp _ _ _ _ (w.alloc (.cells (ipL (nIp 0 0 0 0 false)).toArray 58))
    rw [← HZE.out, HW.out]
    go_wp2_with fail
    have hrow := setRow_heap W w.heap.size Z Z _ _ zr
    refine bodyPost_ret (results_cell_tmp (fn := Try.f30) Try.results30 _ _ w.heap.size 58 Z (0, 0) _ rfl hrow Try.underlying58 rfl (by rw [hZs]; exact info_rip)) rfl ?_
    exact p4_errZ HZE.out hE.out (by decide) (below_setRow HB.out (Nat.le_refl _) _)
  · have hlt : ¬ (l.length : Int) < 20 := by omega
    have hEE : Hid (p4E l = p4S l.length (nmB l 0 1 % 16) (nmB l 2 2) (nmB l 6 2) (nmB l 10 2) (headS (l.take (4 * (nmB l 0 1 % 16))))) := hide (by unfold p4E; rw [if_neg h20])
    obtain ⟨b, off, hA, hbB, hcell⟩ := hb (by omega)
    subst hA
    have HC : Hid (∀ W1 : World, Below w.heap.size w W1 → ∀ i (hi : i < l.length), W1.cell? ⟨b, off + i, none⟩ = some (.int .u8 ((nmB l i 1 : Nat) : Int))) := hide (fun W1 b1 i hi => by
      rw [nmB_at4 hi]
      exact (b1.cell (p := ⟨b, off + i, none⟩) (by show b < _; omega)).trans (hcell i hi))
    have KTWO : Hid (∀ (W1 : World), Below W.heap.size W W1 → ∀ k, k + 1 < l.length → k ≤ 100 → Calls Try.prog 56 #[.slice (some ⟨b, off, none⟩) l.length c, .int .i64 (k : Int)] W1 fun e w' => e = .returned (.int .i64 ((nmB l k 2 : Nat) : Int)) ∧ Below W1.heap.size W1 w') := hide (fun W1 b1 k hk hk2 => two4_any W1 B _ c l k hk hk2 HM.out (HK.out W1 b1).2.2.1)
    have KTAK : Hid (∀ (W1 : World), Below W.heap.size W W1 → ∀ k, k + 4 ≤ l.length → k ≤ 100 → Calls Try.prog 58 #[.slice (some ⟨b, off, none⟩) l.length c, .int .i64 (k : Int), .int .i64 ((4 : Nat) : Int)] W1 fun e w' => (∃ Y, e = .returned (.agg Y) ∧ AdV Y false (pad16 ((l.drop k).take 4))) ∧ Below W1.heap.size W1 w') := hide (fun W1 b1 k hk hk2 => taken4_any W1 B _ c l k 4 false (.inl ⟨rfl, rfl⟩) hk HLC.out hk2 HM.out (HK.out W1 b1).2.2.1 (HK.out W1 b1).2.2.2)
    obtain ⟨N, hN⟩ : ∃ N, N = l.length := ⟨_, rfl⟩
    obtain ⟨n0, hn0⟩ : ∃ n, n = nmB l 0 1 := ⟨_, rfl⟩
    obtain ⟨q, hq⟩ : ∃ q, q = n0 % 16 := ⟨_, rfl⟩
    obtain ⟨hd, hhd⟩ : ∃ h, h = 4 * q := ⟨_, rfl⟩
    obtain ⟨n3, hn3⟩ : ∃ n, n = nmB l 2 2 := ⟨_, rfl⟩
    have hq16 : q < 16 := by omega
    have hmd : (n0 : Int) % 16 = (q : Int) := by omega
    have w1 : IntKind.u8.wrap (q : Int) = (q : Int) := IntWalk.u8_in _ (by omega)
    have w2 : IntKind.i64.wrap (q : Int) = (q : Int) := IntWalk.i64_in _ (by omega)
    have w3 : IntKind.i64.wrap ((q : Int) * 4) = (hd : Int) := by rw [show (q : Int) * 4 = (hd : Int) by omega]; exact IntWalk.i64_in _ (by omega)
    have c0 := HC.out W HB.out 0 (by omega)
    rw [← hn0] at c0
    rw [Nat.add_zero] at c0
    have hEF : Hid (p4E l = if hd < 20 ∨ n3 < hd then 11 else if N < n3 then 10 else if n3 < N then 11 else if nmB l 10 2 ≠ headS (l.take hd) then 12 else if 32768 ≤ nmB l 6 2 then 11 else if nmB l 6 2 % 16384 ≠ 0 then 15 else 0) := hide (by rw [hEE.out, ← hn0, ← hq, ← hhd, ← hN, ← hn3]; rw [hhd]; rfl)
    have HQQ : Hid (q = nmB l 0 1 % 16 ∧ hd = 4 * q ∧ N = l.length ∧ 20 ≤ N ∧ q < 16) := hide ⟨by rw [hq, hn0], hhd, hN, by omega, hq16⟩
    have KT2 := hide (fun (W1 : World) (b1 : Below W.heap.size W W1) => KTWO.out W1 b1 2 (by omega) (by decide))
    rw [← hn3] at KT2
    rw [← hN] at hlt KT2 KTWO KTAK ⊢
    have hN0 : (0 : Int) < (N : Int) := by omega
    clear hZ hW hbW hlc hn hb hB VZ hEE h20 hcell hN hn0 hq hhd hn3 hq16 hbB
    go_enter Try.func30, Try.ntmps30
    go_upto_region 1 with (fail)
    change Code.wp _ _ _ _ (w.alloc (.cells (ipL (nIp 0 0 0 0 false)).toArray 58))
    rw [← HZE.out, HW.out]
    go_wp2_with fail
    refine (KT2.out W (Below.refl _ _)).mono ?_
    rintro e W1 ⟨rfl, b1⟩
    have B1 : Hid (Below W.heap.size W W1) := hide b1
    have zr := (HK.out W1 b1).1
    have HBW1 := hide (HK.out W1 b1).2.1
    clear b1 c0 KT2 w1 w2 w3 hmd
    dsimp only
    by_cases hd20 : hd < 20
    · have hE : Hid (p4E l = 11) := hide (by rw [hEF.out, if_pos (.inl hd20)])
      have hb1 : (hd : Int) < 20 := by omega
      go_wp2_with fail
      have hrow := setRow_heap W1 w.heap.size Z Z _ _ zr
      refine bodyPost_ret (results_cell_tmp (fn := Try.f30) Try.results30 _ _ w.heap.size 58 Z (0, 0) _ rfl hrow Try.underlying58 rfl (by rw [hZs]; exact info_rip)) rfl ?_
      exact p4_errZ HZE.out hE.out (by decide) (below_setRow HBW1.out (Nat.le_refl _) _)
    have hb1 : ¬ (hd : Int) < 20 := by omega
    by_cases hnh : n3 < hd
    · have hE : Hid (p4E l = 11) := hide (by rw [hEF.out, if_pos (.inr hnh)])
      have hb2 : (n3 : Int) < (hd : Int) := by omega
      go_wp2_with fail
      have hrow := setRow_heap W1 w.heap.size Z Z _ _ zr
      refine bodyPost_ret (results_cell_tmp (fn := Try.f30) Try.results30 _ _ w.heap.size 58 Z (0, 0) _ rfl hrow Try.underlying58 rfl (by rw [hZs]; exact info_rip)) rfl ?_
      exact p4_errZ HZE.out hE.out (by decide) (below_setRow HBW1.out (Nat.le_refl _) _)
    have hb2 : ¬ (n3 : Int) < (hd : Int) := by omega
    have hEF : Hid (p4E l = if N < n3 then 10 else if n3 < N then 11 else if nmB l 10 2 ≠ headS (l.take hd) then 12 else if 32768 ≤ nmB l 6 2 then 11 else if nmB l 6 2 % 16384 ≠ 0 then 15 else 0) := hide (by rw [hEF.out, if_neg (by omega)])
    rcases Nat.lt_trichotomy N n3 with hlt3 | heq | hgt
    · have hE : Hid (p4E l = 10) := hide (by rw [hEF.out, if_pos hlt3])
      have hb3 : (N : Int) < (n3 : Int) := by omega
      go_wp2_with fail
      have hrow := setRow_heap W1 w.heap.size Z Z _ _ zr
      refine bodyPost_ret (results_cell_tmp (fn := Try.f30) Try.results30 _ _ w.heap.size 58 Z (0, 0) _ rfl hrow Try.underlying58 rfl (by rw [hZs]; exact info_rip)) rfl ?_
      exact p4_errZ HZE.out hE.out (by decide) (below_setRow HBW1.out (Nat.le_refl _) _)
    rotate_left
    · have hE : Hid (p4E l = 11) := hide (by rw [hEF.out, if_neg (by omega), if_pos hgt])
      have hb3 : (n3 : Int) < (N : Int) := by omega
      have hb4 : ¬ (N : Int) < (n3 : Int) := by omega
      go_wp2_with fail
      have hrow := setRow_heap W1 w.heap.size Z Z _ _ zr
      refine bodyPost_ret (results_cell_tmp (fn := Try.f30) Try.results30 _ _ w.heap.size 58 Z (0, 0) _ rfl hrow Try.underlying58 rfl (by rw [hZs]; exact info_rip)) rfl ?_
      exact p4_errZ HZE.out hE.out (by decide) (below_setRow HBW1.out (Nat.le_refl _) _)
    subst heq
    have hEF : Hid (p4E l = if nmB l 10 2 ≠ headS (l.take hd) then 12 else if 32768 ≤ nmB l 6 2 then 11 else if nmB l 6 2 % 16384 ≠ 0 then 15 else 0) := hide (by rw [hEF.out, if_neg (by omega), if_neg (by omega)])
    have hb3 : ¬ (N : Int) < (N : Int) := by omega
    have KT10 : Hid (∀ (W1 : World), Below W.heap.size W W1 → Calls Try.prog 56 #[.slice (some ⟨b, off, none⟩) N c, .int .i64 10] W1 fun e w' => e = .returned (.int .i64 ((nmB l 10 2 : Nat) : Int)) ∧ Below W1.heap.size W1 w') := hide (fun W1 b1 => KTWO.out W1 b1 10 (by have := HQQ.out; omega) (by decide))
    have KT6 : Hid (∀ (W1 : World), Below W.heap.size W W1 → Calls Try.prog 56 #[.slice (some ⟨b, off, none⟩) N c, .int .i64 6] W1 fun e w' => e = .returned (.int .i64 ((nmB l 6 2 : Nat) : Int)) ∧ Below W1.heap.size W1 w') := hide (fun W1 b1 => KTWO.out W1 b1 6 (by have := HQQ.out; omega) (by decide))
    have KT4 : Hid (∀ (W1 : World), Below W.heap.size W W1 → Calls Try.prog 56 #[.slice (some ⟨b, off, none⟩) N c, .int .i64 4] W1 fun e w' => e = .returned (.int .i64 ((nmB l 4 2 : Nat) : Int)) ∧ Below W1.heap.size W1 w') := hide (fun W1 b1 => KTWO.out W1 b1 4 (by have := HQQ.out; omega) (by decide))
    have KOWN : Hid (∀ (W1 : World), Below W.heap.size W W1 → Calls Try.prog 57 #[.slice (some ⟨b, off, none⟩) hd c] W1 fun e w' => e = .returned (.int .i64 ((headS (l.take hd) : Nat) : Int)) ∧ Below W1.heap.size W1 w') := hide (fun W1 b1 => by
      have hl : (l.take hd).length = hd := by rw [List.length_take]; have := HQQ.out; omega
      have K := own_any W1 (some ⟨b, off, none⟩) c (l.take hd) (by rw [hl]; omega) (by rw [hl]; have := HM.out; have := HQQ.out; omega) (fun h0 => by
        obtain ⟨b', off', e, hb', hc'⟩ := (HK.out W1 b1).2.2.1 (by have := HQQ.out; omega)
        refine ⟨b', off', e, by have := (HK.out W1 b1).2.2.2; omega, fun i hi => ?_⟩
        rw [hl] at hi
        rw [List.getElem_take]
        exact hc' i (by have := HQQ.out; omega)) (fun e => by cases e)
      rw [hl] at K
      exact K)
    obtain ⟨n8, hn8⟩ : ∃ n, n = nmB l 10 2 := ⟨_, rfl⟩
    obtain ⟨S, hS⟩ : ∃ n, n = headS (l.take hd) := ⟨_, rfl⟩
    obtain ⟨n5, hn5⟩ : ∃ n, n = nmB l 6 2 := ⟨_, rfl⟩
    have HN5 := hide hn5
    rw [← hn8] at hEF KT10
    rw [← hS] at hEF KOWN
    rw [← hn5] at hEF KT6
    have hl7 : 6 + 1 < l.length := by have := HQQ.out; omega
    have hl6 : 6 < l.length := by omega
    have hnn5 : n5 = nmB l 6 1 * 256 + nmB l 7 1 := by
      rw [hn5, nmB_pair hl7, nmB_at4 hl6, nmB_at4 hl7]
    have l7 : nmB l 7 1 < 256 := by rw [nmB_at4 hl7]; exact UInt8.toNat_lt _
    have l6 : nmB l 6 1 < 256 := by rw [nmB_at4 hl6]; exact UInt8.toNat_lt _
    obtain ⟨u6, hu6⟩ : ∃ n, n = nmB l 6 1 := ⟨_, rfl⟩
    rw [← hu6] at hnn5 l6
    have HU : Hid (u6 < 256 ∧ (32768 ≤ n5 ↔ 128 ≤ u6) ∧ (u6 < 128 → (n5 / 16384 % 2 = 1 ↔ 64 ≤ u6)) ∧ n5 < 65536) := hide (by omega)
    have hdc : (hd : Int) ≤ (c : Int) := by have := HQQ.out; have := HLC.out; omega
    have hd0 : (0 : Int) ≤ (hd : Int) := by omega
    clear hn8 hS hn5 hnn5 l7 l6 hl7 hl6
    have HU6 := hide hu6
    clear hu6
    go_upto_region 11 with (fail)
    go_region_held3 (fun w' => True)
      (trivial)
      (first
        | (go_at_call 56; (with_reducible refine (KT10.out W1.drew B1.out.drew).mono ?_); rintro e w2 ⟨rfl, b2⟩; have B2 : Hid (Below W.heap.size W w2) := hide (B1.out.drew.trans (b2.mono B1.out.drew.size)); clear b2)
        | (go_at_call 57; (with_reducible refine (KOWN.out w2 B2.out).mono ?_); rintro e w3 ⟨rfl, b3⟩; have B3 : Hid (Below W.heap.size W w3) := hide (B2.out.trans (b3.mono B2.out.size)); clear b3)
        | fail)
    all_goals (
      have zr := (HK.out w3 B3.out).1
      have HBW3 := hide (HK.out w3 B3.out).2.1
      clear KT10 KOWN B1 HBW1
      by_cases hnS : n8 = S
      rotate_left
      · have hE : Hid (p4E l = 12) := hide (by rw [hEF.out, if_pos hnS])
        have hSE : ((n8 : Int) != (S : Int)) = true := by simpa using (by omega : ¬ (n8 : Int) = (S : Int))
        go_wp2_with fail
        have hrow := setRow_heap w3 w.heap.size Z Z _ _ zr
        refine bodyPost_ret (results_cell_tmp (fn := Try.f30) Try.results30 _ _ w.heap.size 58 Z (0, 0) _ rfl hrow Try.underlying58 rfl (by rw [hZs]; exact info_rip)) rfl ?_
        exact p4_errZ HZE.out hE.out (by decide) (below_setRow HBW3.out (Nat.le_refl _) _)
      have hSE : ((n8 : Int) != (S : Int)) = false := by rw [hnS]; simp
      have hEF : Hid (p4E l = if 32768 ≤ n5 then 11 else if n5 % 16384 ≠ 0 then 15 else 0) := hide (by rw [hEF.out, if_neg (by simpa using hnS)])
      have c6 := HC.out w3 HBW3.out 6 (by have := HQQ.out; omega)
      rw [← HU6.out] at c6
      have hN6 : (6 : Int) < (N : Int) := by have := HQQ.out; omega
      clear hnS
      by_cases h128 : 128 ≤ u6
      · have hE : Hid (p4E l = 11) := hide (by rw [hEF.out, if_pos (HU.out.2.1.2 h128)])
        have hb6 : (128 : Int) ≤ (u6 : Int) := by omega
        go_wp2_with fail
        have hrow := setRow_heap w3 w.heap.size Z Z _ _ zr
        refine bodyPost_ret (results_cell_tmp (fn := Try.f30) Try.results30 _ _ w.heap.size 58 Z (0, 0) _ rfl hrow Try.underlying58 rfl (by rw [hZs]; exact info_rip)) rfl ?_
        exact p4_errZ HZE.out hE.out (by decide) (below_setRow HBW3.out (Nat.le_refl _) _)
      have hb6 : ¬ (128 : Int) ≤ (u6 : Int) := by omega
      have hEF : Hid (p4E l = if n5 % 16384 ≠ 0 then 15 else 0) := hide (by rw [hEF.out, if_neg (fun e => h128 (HU.out.2.1.1 e))])
      have H128 := hide h128
      clear h128
      go_wp2_with fail
      refine (KT6.out w3 B3.out).mono ?_
      rintro e w4 ⟨rfl, b4⟩
      have B4 : Hid (Below W.heap.size W w4) := hide (B3.out.trans (b4.mono B3.out.size))
      have zr := (HK.out w4 B4.out).1
      have HBW4 := hide (HK.out w4 B4.out).2.1
      clear b4 c6 KT6 B3 HBW3
      dsimp only
      obtain ⟨r5, hr5⟩ : ∃ r, r = n5 % 16384 := ⟨_, rfl⟩
      have hm5 : (n5 : Int) % 16384 = (r5 : Int) := by omega
      have w5 : IntKind.i64.wrap (r5 : Int) = (r5 : Int) := IntWalk.i64_in _ (by omega)
      rw [← hr5] at hEF
      clear hr5
      by_cases hr0 : r5 = 0
      rotate_left
      · have hE : Hid (p4E l = 15) := hide (by rw [hEF.out, if_pos hr0])
        have hb7 : ((r5 : Int) != 0) = true := by simpa using (by omega : ¬ (r5 : Int) = 0)
        go_wp2_with fail
        have hrow := setRow_heap w4 w.heap.size Z Z _ _ zr
        refine bodyPost_ret (results_cell_tmp (fn := Try.f30) Try.results30 _ _ w.heap.size 58 Z (0, 0) _ rfl hrow Try.underlying58 rfl (by rw [hZs]; exact info_rip)) rfl ?_
        exact p4_errZ HZE.out hE.out (by decide) (below_setRow HBW4.out (Nat.le_refl _) _)
      subst hr0
      have hE : Hid (p4E l = 0) := hide (by rw [hEF.out, if_neg (by decide)])
      go_upto_region 17 with (fail)
      obtain ⟨p9, hp9⟩ : ∃ p, p = nmB l 9 1 := ⟨_, rfl⟩
      obtain ⟨p8, hp8⟩ : ∃ p, p = nmB l 8 1 := ⟨_, rfl⟩
      obtain ⟨p1, hp1⟩ : ∃ p, p = nmB l 1 1 := ⟨_, rfl⟩
      obtain ⟨p4, hp4⟩ : ∃ p, p = nmB l 4 2 := ⟨_, rfl⟩
      have l9 : p9 < 256 ∧ p8 < 256 ∧ p1 < 256 := by
        have := HQQ.out
        have h9 : 9 < l.length := by omega
        have h8 : 8 < l.length := by omega
        have h1 : 1 < l.length := by omega
        rw [hp9, hp8, hp1, nmB_at4 h9, nmB_at4 h8, nmB_at4 h1]
        exact ⟨UInt8.toNat_lt _, UInt8.toNat_lt _, UInt8.toNat_lt _⟩
      have HCC : Hid (∀ W1 : World, Below W.heap.size W W1 → W1.cell? ⟨b, off + 9, none⟩ = some (.int .u8 (p9 : Int)) ∧ W1.cell? ⟨b, off + 8, none⟩ = some (.int .u8 (p8 : Int)) ∧ W1.cell? ⟨b, off + 1, none⟩ = some (.int .u8 (p1 : Int)) ∧ W1.cell? ⟨b, off + 6, none⟩ = some (.int .u8 (u6 : Int))) := hide (fun W1 b1 => by
        have h1 := (HK.out W1 b1).2.1
        have := HQQ.out
        rw [hp9, hp8, hp1, HU6.out]
        exact ⟨HC.out W1 h1 9 (by omega), HC.out W1 h1 8 (by omega), HC.out W1 h1 1 (by omega), HC.out W1 h1 6 (by omega)⟩)
      rw [← hp4] at KT4
      have HPP := hide (And.intro hp9 (And.intro hp8 (And.intro hp1 hp4)))
      have v9 : IntKind.i64.wrap (p9 : Int) = (p9 : Int) := IntWalk.i64_in _ (by omega)
      have v8 : IntKind.i64.wrap (p8 : Int) = (p8 : Int) := IntWalk.i64_in _ (by omega)
      have v1 : IntKind.i64.wrap (p1 : Int) = (p1 : Int) := IntWalk.i64_in _ (by omega)
      clear hp9 hp8 hp1 hp4 l9
      have hN9 : (9 : Int) < (N : Int) ∧ (8 : Int) < (N : Int) ∧ (1 : Int) < (N : Int) := by have := HQQ.out; omega
      obtain ⟨hN9, hN8, hN1⟩ := hN9
      have KA : Hid (∀ (W1 : World), Below W.heap.size W W1 → Calls Try.prog 58 #[.slice (some ⟨b, off, none⟩) N c, .int .i64 12, .int .i64 4] W1 fun e w' => (∃ Y, e = .returned (.agg Y) ∧ AdV Y false (pad16 ((l.drop 12).take 4))) ∧ Below W1.heap.size W1 w') := hide (fun W1 b1 => KTAK.out W1 b1 12 (by have := HQQ.out; omega) (by decide))
      have KB : Hid (∀ (W1 : World), Below W.heap.size W W1 → Calls Try.prog 58 #[.slice (some ⟨b, off, none⟩) N c, .int .i64 16, .int .i64 4] W1 fun e w' => (∃ Y, e = .returned (.agg Y) ∧ AdV Y false (pad16 ((l.drop 16).take 4))) ∧ Below W1.heap.size W1 w') := hide (fun W1 b1 => KTAK.out W1 b1 16 (by have := HQQ.out; omega) (by decide))
      obtain ⟨sS, hsS⟩ : ∃ x, x = pad16 ((l.drop 12).take 4) := ⟨_, rfl⟩
      obtain ⟨sD, hsD⟩ : ∃ x, x = pad16 ((l.drop 16).take 4) := ⟨_, rfl⟩
      rw [← hsS] at KA
      rw [← hsD] at KB
      have HSD := hide (And.intro hsS hsD)
      clear hsS hsD
      obtain ⟨d9, d8, d1, d6⟩ := HCC.out w4 B4.out
      obtain ⟨e9, e8, e1, e6⟩ := HCC.out w4.drew B4.out.drew
      obtain ⟨df, hdf⟩ : ∃ df : Bool, (df = true ∧ (64 : Int) ≤ (u6 : Int)) ∨ (df = false ∧ ¬ (64 : Int) ≤ (u6 : Int)) := by
        by_cases h64 : (64 : Int) ≤ (u6 : Int)
        · exact ⟨true, .inl ⟨rfl, h64⟩⟩
        · exact ⟨false, .inr ⟨rfl, h64⟩⟩
      have HDF : Hid (df = decide (nmB l 6 2 / 16384 % 2 = 1)) := hide (by
        rw [← HN5.out]
        have h1 := HU.out.2.2.1 (by have := H128.out; omega)
        rcases hdf with ⟨rfl, h⟩ | ⟨rfl, h⟩
        · exact (decide_eq_true (h1.2 (by omega))).symm
        · exact (decide_eq_false (fun e => h (by have := h1.1 e; omega))).symm)
      go_cut [6] from 50 to 78 (fun p wx => FourQ W wx p (sIp (p9 : Int) (p8 : Int) (p1 : Int) (p4 : Int) df sS sD))
      case first =>
        rcases hdf with ⟨rfl, h64⟩ | ⟨rfl, h64⟩
        · obtain ⟨Yp, hYp⟩ : ∃ Y, Y = (ipL (sIp (p9 : Int) (p8 : Int) (p1 : Int) (p4 : Int) true sS sD)).toArray := ⟨_, rfl⟩
          have hSl : sS.length = 16 := by rw [HSD.out.1]; exact len_pad16 (by rw [List.length_take]; omega)
          have hDl : sD.length = 16 := by rw [HSD.out.2]; exact len_pad16 (by rw [List.length_take]; omega)
          have VP : IpV Yp (sIp (p9 : Int) (p8 : Int) (p1 : Int) (p4 : Int) true sS sD) := ⟨hYp, hSl, hDl⟩
          have hYps : Yp.size = 43 := VP.size
          have hYpo : allOne Yp = true := VP.one
          have HVP := hide VP
          have HBU : Hid (∀ Y1 Y2, AdV Y1 false sS → AdV Y2 false sD → Try.prog.built 58 [(1, .agg Y1), (2, .agg Y2), (3, .int .i64 (p9 : Int)), (4, .int .i64 (p8 : Int)), (5, .int .i64 (p1 : Int)), (6, .int .i64 (p4 : Int)), (7, .bool true)] = some Yp) := hide (fun Y1 Y2 y1 y2 => by rw [y1.eq, y2.eq, hYp]; exact built_f4 _ _ _ _ _ _ _ hSl hDl)
          clear hYp hSl hDl VP
          go_region_held3 (fun w' => w'.cell? ⟨b, off + 9, none⟩ = some (.int .u8 (p9 : Int)) ∧ w'.cell? ⟨b, off + 8, none⟩ = some (.int .u8 (p8 : Int)) ∧ w'.cell? ⟨b, off + 1, none⟩ = some (.int .u8 (p1 : Int)) ∧ w'.cell? ⟨b, off + 6, none⟩ = some (.int .u8 (u6 : Int)))
            (first | exact ⟨d9, d8, d1, d6⟩ | exact ⟨e9, e8, e1, e6⟩ | exact ⟨f9, f8, f1, f6⟩ | exact ⟨g9, g8, g1, g6⟩ | exact ⟨h9, h8, h1, h6⟩ | exact HCC.out _ (B7.out.alloc B7.out.size _) | exact HCC.out _ (B6.out.alloc B6.out.size _) | exact HCC.out _ (B5.out.alloc B5.out.size _) | exact HCC.out _ (B4.out.drew.alloc B4.out.drew.size _) | exact HCC.out _ (B4.out.alloc B4.out.size _).drew | exact HCC.out _ (B4.out.alloc B4.out.size _) | exact HCC.out _ (below_setRow B7.out B6.out.size _) | exact HCC.out _ (below_setRow B7.out B5.out.size _) | exact HCC.out _ (below_setRow B7.out B4.out.size _) | fail)
            (first
              | (go_at_call 58; (first | with_reducible refine (KA.out _ B4.out.drew).mono ?_ | with_reducible refine (KA.out _ (B4.out.alloc B4.out.size _).drew).mono ?_); rintro e w5 ⟨⟨Y1, rfl, y1⟩, b5⟩; have B5 : Hid (Below W.heap.size W w5) := hide (by first | exact B4.out.drew.trans (b5.mono B4.out.drew.size) | exact (B4.out.alloc B4.out.size _).drew.trans (b5.mono (B4.out.alloc B4.out.size _).drew.size)); obtain ⟨f9, f8, f1, f6⟩ := HCC.out w5 B5.out; have HY1 := hide y1; (first | (have rz : w5.heap[w4.heap.size]? = some (.cells Z 58 (0, 0)) := by rw [HZE.out]; exact (b5.block w4.heap.size (by show w4.heap.size < (w4.alloc _).heap.size; rw [World.size_alloc]; exact Nat.lt_succ_self _)).trans (heap_alloc_new w4 _)) | skip); clear b5 y1)
              | (go_at_call 58; (first | with_reducible refine (KB.out _ B5.out).mono ?_ | with_reducible refine (KB.out _ (B5.out.alloc B5.out.size _)).mono ?_); rintro e w6 ⟨⟨Y2, rfl, y2⟩, b6⟩; have B6 : Hid (Below W.heap.size W w6) := hide (by first | exact B5.out.trans (b6.mono B5.out.size) | exact (B5.out.alloc B5.out.size _).trans (b6.mono (B5.out.alloc B5.out.size _).size)); obtain ⟨g9, g8, g1, g6⟩ := HCC.out w6 B6.out; have HY2 := hide y2; have hbu := HBU.out _ _ HY1.out HY2.out; (first | (have rz := (b6.block _ (Array.getElem?_eq_some_iff.1 rz).1).trans rz) | (have rz : w6.heap[w5.heap.size]? = some (.cells Z 58 (0, 0)) := by rw [HZE.out]; exact (b6.block w5.heap.size (by rw [World.size_alloc]; exact Nat.lt_succ_self _)).trans (heap_alloc_new w5 _)) | skip); clear b6 y2)
              | (go_at_call 56; (first | with_reducible refine (KT4.out _ B6.out).mono ?_ | with_reducible refine (KT4.out _ (B6.out.alloc B6.out.size _)).mono ?_); rintro e w7 ⟨rfl, b7⟩; have B7 : Hid (Below W.heap.size W w7) := hide (by first | exact B6.out.trans (b7.mono B6.out.size) | exact (B6.out.alloc B6.out.size _).trans (b7.mono (B6.out.alloc B6.out.size _).size)); obtain ⟨h9, h8, h1, h6⟩ := HCC.out w7 B7.out; (first | (have rz := (b7.block _ (Array.getElem?_eq_some_iff.1 rz).1).trans rz) | (have rz : w7.heap[w6.heap.size]? = some (.cells Z 58 (0, 0)) := by rw [HZE.out]; exact (b7.block w6.heap.size (by rw [World.size_alloc]; exact Nat.lt_succ_self _)).trans (heap_alloc_new w6 _)) | skip); clear b7)
              | fail)
          all_goals (
            try go_wp2_with fail
            go_meet
            first
              | exact ⟨w7.heap.size, Yp, rfl, heap_alloc_new w7 _, HVP.out, B7.out.alloc B7.out.size _, B7.out.size⟩
              | exact ⟨w6.heap.size, Yp, rfl, setRow_heap w7 _ _ Yp _ _ rz, HVP.out, below_setRow B7.out B6.out.size _, B6.out.size⟩
              | exact ⟨w5.heap.size, Yp, rfl, setRow_heap w7 _ _ Yp _ _ rz, HVP.out, below_setRow B7.out B5.out.size _, B5.out.size⟩
              | exact ⟨w4.heap.size, Yp, rfl, setRow_heap w7 _ _ Yp _ _ rz, HVP.out, below_setRow B7.out B4.out.size _, B4.out.size⟩
              | fail)
        · obtain ⟨Yp, hYp⟩ : ∃ Y, Y = (ipL (sIp (p9 : Int) (p8 : Int) (p1 : Int) (p4 : Int) false sS sD)).toArray := ⟨_, rfl⟩
          have hSl : sS.length = 16 := by rw [HSD.out.1]; exact len_pad16 (by rw [List.length_take]; omega)
          have hDl : sD.length = 16 := by rw [HSD.out.2]; exact len_pad16 (by rw [List.length_take]; omega)
          have VP : IpV Yp (sIp (p9 : Int) (p8 : Int) (p1 : Int) (p4 : Int) false sS sD) := ⟨hYp, hSl, hDl⟩
          have hYps : Yp.size = 43 := VP.size
          have hYpo : allOne Yp = true := VP.one
          have HVP := hide VP
          have HBU : Hid (∀ Y1 Y2, AdV Y1 false sS → AdV Y2 false sD → Try.prog.built 58 [(1, .agg Y1), (2, .agg Y2), (3, .int .i64 (p9 : Int)), (4, .int .i64 (p8 : Int)), (5, .int .i64 (p1 : Int)), (6, .int .i64 (p4 : Int)), (7, .bool false)] = some Yp) := hide (fun Y1 Y2 y1 y2 => by rw [y1.eq, y2.eq, hYp]; exact built_f4 _ _ _ _ _ _ _ hSl hDl)
          clear hYp hSl hDl VP
          go_region_held3 (fun w' => w'.cell? ⟨b, off + 9, none⟩ = some (.int .u8 (p9 : Int)) ∧ w'.cell? ⟨b, off + 8, none⟩ = some (.int .u8 (p8 : Int)) ∧ w'.cell? ⟨b, off + 1, none⟩ = some (.int .u8 (p1 : Int)) ∧ w'.cell? ⟨b, off + 6, none⟩ = some (.int .u8 (u6 : Int)))
            (first | exact ⟨d9, d8, d1, d6⟩ | exact ⟨e9, e8, e1, e6⟩ | exact ⟨f9, f8, f1, f6⟩ | exact ⟨g9, g8, g1, g6⟩ | exact ⟨h9, h8, h1, h6⟩ | exact HCC.out _ (B7.out.alloc B7.out.size _) | exact HCC.out _ (B6.out.alloc B6.out.size _) | exact HCC.out _ (B5.out.alloc B5.out.size _) | exact HCC.out _ (B4.out.drew.alloc B4.out.drew.size _) | exact HCC.out _ (B4.out.alloc B4.out.size _).drew | exact HCC.out _ (B4.out.alloc B4.out.size _) | exact HCC.out _ (below_setRow B7.out B6.out.size _) | exact HCC.out _ (below_setRow B7.out B5.out.size _) | exact HCC.out _ (below_setRow B7.out B4.out.size _) | fail)
            (first
              | (go_at_call 58; (first | with_reducible refine (KA.out _ B4.out.drew).mono ?_ | with_reducible refine (KA.out _ (B4.out.alloc B4.out.size _).drew).mono ?_); rintro e w5 ⟨⟨Y1, rfl, y1⟩, b5⟩; have B5 : Hid (Below W.heap.size W w5) := hide (by first | exact B4.out.drew.trans (b5.mono B4.out.drew.size) | exact (B4.out.alloc B4.out.size _).drew.trans (b5.mono (B4.out.alloc B4.out.size _).drew.size)); obtain ⟨f9, f8, f1, f6⟩ := HCC.out w5 B5.out; have HY1 := hide y1; (first | (have rz : w5.heap[w4.heap.size]? = some (.cells Z 58 (0, 0)) := by rw [HZE.out]; exact (b5.block w4.heap.size (by show w4.heap.size < (w4.alloc _).heap.size; rw [World.size_alloc]; exact Nat.lt_succ_self _)).trans (heap_alloc_new w4 _)) | skip); clear b5 y1)
              | (go_at_call 58; (first | with_reducible refine (KB.out _ B5.out).mono ?_ | with_reducible refine (KB.out _ (B5.out.alloc B5.out.size _)).mono ?_); rintro e w6 ⟨⟨Y2, rfl, y2⟩, b6⟩; have B6 : Hid (Below W.heap.size W w6) := hide (by first | exact B5.out.trans (b6.mono B5.out.size) | exact (B5.out.alloc B5.out.size _).trans (b6.mono (B5.out.alloc B5.out.size _).size)); obtain ⟨g9, g8, g1, g6⟩ := HCC.out w6 B6.out; have HY2 := hide y2; have hbu := HBU.out _ _ HY1.out HY2.out; (first | (have rz := (b6.block _ (Array.getElem?_eq_some_iff.1 rz).1).trans rz) | (have rz : w6.heap[w5.heap.size]? = some (.cells Z 58 (0, 0)) := by rw [HZE.out]; exact (b6.block w5.heap.size (by rw [World.size_alloc]; exact Nat.lt_succ_self _)).trans (heap_alloc_new w5 _)) | skip); clear b6 y2)
              | (go_at_call 56; (first | with_reducible refine (KT4.out _ B6.out).mono ?_ | with_reducible refine (KT4.out _ (B6.out.alloc B6.out.size _)).mono ?_); rintro e w7 ⟨rfl, b7⟩; have B7 : Hid (Below W.heap.size W w7) := hide (by first | exact B6.out.trans (b7.mono B6.out.size) | exact (B6.out.alloc B6.out.size _).trans (b7.mono (B6.out.alloc B6.out.size _).size)); obtain ⟨h9, h8, h1, h6⟩ := HCC.out w7 B7.out; (first | (have rz := (b7.block _ (Array.getElem?_eq_some_iff.1 rz).1).trans rz) | (have rz : w7.heap[w6.heap.size]? = some (.cells Z 58 (0, 0)) := by rw [HZE.out]; exact (b7.block w6.heap.size (by rw [World.size_alloc]; exact Nat.lt_succ_self _)).trans (heap_alloc_new w6 _)) | skip); clear b7)
              | fail)
          all_goals (
            try go_wp2_with fail
            go_meet
            first
              | exact ⟨w7.heap.size, Yp, rfl, heap_alloc_new w7 _, HVP.out, B7.out.alloc B7.out.size _, B7.out.size⟩
              | exact ⟨w6.heap.size, Yp, rfl, setRow_heap w7 _ _ Yp _ _ rz, HVP.out, below_setRow B7.out B6.out.size _, B6.out.size⟩
              | exact ⟨w5.heap.size, Yp, rfl, setRow_heap w7 _ _ Yp _ _ rz, HVP.out, below_setRow B7.out B5.out.size _, B5.out.size⟩
              | exact ⟨w4.heap.size, Yp, rfl, setRow_heap w7 _ _ Yp _ _ rz, HVP.out, below_setRow B7.out B4.out.size _, B4.out.size⟩
              | fail)
      case rest =>
        obtain ⟨z, Yp, rfl, f1, f2, f3, f4⟩ := hcut
        obtain ⟨W8, hW8⟩ : ∃ W8, W8 = wc := ⟨_, rfl⟩
        rw [← hW8] at f1 f3
        have F : Hid (W8.heap[z]? = some (.cells Yp 58 (0, 0)) ∧ Below W.heap.size W W8 ∧ W.heap.size ≤ z) := hide ⟨f1, f3, f4⟩
        have HVP := hide f2
        rw [← hW8]
        clear hW8 f1 f2 f3 f4 zr
        go_upto_region 18 with (fail)
        have HY8 := hide (HK.out W8 F.out.2.1).2.2.1
        have r8 : W8.drew.heap[z]? = some (.cells Yp 58 (0, 0)) := F.out.1
        have c41 : W8.drew.cell? ⟨z, 41, none⟩ = some (.slice none 0 0) := (HVP.out.cells r8).c41
        have hd20' : (20 : Int) ≤ (hd : Int) := by omega
        obtain ⟨L1, hL1⟩ : ∃ L1, L1 = (l.drop 20).take (hd - 20) := ⟨_, rfl⟩
        have hl1 : L1.length = hd - 20 := by rw [hL1, List.length_take, List.length_drop]; have := HQQ.out; omega
        have HL1 := hide (And.intro hL1 hl1)
        have HS1 : Hid (Byt W8.drew B (if c = 20 then some ⟨b, off, none⟩ else some ⟨b, off + 20, none⟩) L1) := hide (by
          have e := HY8.out.drew.sub 20 (hd - 20) c HLC.out
          rw [← hL1] at e
          rw [Option.map_some, add_none] at e
          exact e)
        have HN1 : Hid ((if c = 20 then (some ⟨b, off, none⟩ : Option Addr) else some ⟨b, off + 20, none⟩) = none → c - 20 = 0) := hide (fun e => by split at e <;> cases e)
        obtain ⟨AX, hAX⟩ : ∃ A, (if c = 20 then (some ⟨b, off, none⟩ : Option Addr) else some ⟨b, off + 20, none⟩) = A := ⟨_, rfl⟩
        rw [hAX] at HS1 HN1
        have HLM : Hid (([] : List UInt8).length + L1.length ≤ 140737488355328) := hide (by rw [hl1]; have := HQQ.out; have := HM.out; simp; omega)
        have hz8 : Hid (z < W8.heap.size) := hide (Array.getElem?_eq_some_iff.1 F.out.1).1
        have HR8 := hide r8
        clear d9 d8 d1 d6 e9 e8 e1 e6 KT4 KA KB HCC hL1 hl1 r8
        go_wp2_with fail
        go_region_law (refine step_app_bytesP rfl (.tmp 79) (.tmp 82) rfl W8.heap.size (.slice none 0 0) [] L1 B (hd - 20) (c - 20) _ rfl rfl HL1.out.2 (OwnB.nil _ _) HS1.out HN1.out HLM.out (Nat.le_refl _) ?_
                       intro v9 w9 ho9 hg9 ha9
                       have hr9 := (hg9.block z hz8.out (by simp [Value.ownBlock])).trans HR8.out
                       have ho9' : OwnB w9 W8.heap.size v9 L1 := ho9
                       obtain ⟨A1, c1, rfl, tk1⟩ := ho9'.tkh hz8.out
                       have c41' := (HVP.out.cells hr9).c41
                       have f41' := frozen_of_row w9 z 41 _ _ hr9
                       have B9 : Hid (Below W.heap.size W w9) := hide (F.out.2.1.drew.grown hg9 F.out.2.1.drew.size (fun i e => by cases e))
                       have TK1 := hide tk1
                       have HR9 := hide hr9
                       clear ho9 ho9' hg9 ha9 hr9 tk1)
        go_upto_region 19 with (fail)
        obtain ⟨W9, hW9⟩ : ∃ W9, W9 = w9.setCell ⟨z, 41, none⟩ (.slice A1 L1.length c1) := ⟨_, rfl⟩
        have TK9 : Hid (TkH z W9 A1 c1 L1) := hide (by rw [hW9]; exact TK1.out.grown (grown_set w9 z 41 _) (fun j e => by cases e; exact .inl (Nat.le_refl _)))
        have BB9 : Hid (Below W.heap.size W W9) := hide (by rw [hW9]; exact B9.out.grown (grown_set w9 z 41 _) B9.out.size (fun j e => by cases e; exact F.out.2.2))
        obtain ⟨Yq, hYq⟩ : ∃ Y, Y = (ipL { sIp (p9 : Int) (p8 : Int) (p1 : Int) (p4 : Int) df sS sD with ao := A1, no := L1.length, co := c1 }).toArray := ⟨_, rfl⟩
        have r9 : W9.heap[z]? = some (.cells Yq 58 (0, 0)) := by
          have e := heap_setCell_same w9 z 41 _ _ (.slice A1 L1.length c1) HR9.out
          rw [HVP.out.eq, ip_set41 _ HVP.out.ls HVP.out.ld, ← hYq, ← hW9] at e
          exact e
        have VQ : Hid (IpV Yq { sIp (p9 : Int) (p8 : Int) (p1 : Int) (p4 : Int) df sS sD with ao := A1, no := L1.length, co := c1 }) := hide ⟨hYq, HVP.out.ls, HVP.out.ld⟩
        rw [← hW9]
        have HY9 := hide (HK.out W9 BB9.out).2.2.1
        have r9d : W9.drew.heap[z]? = some (.cells Yq 58 (0, 0)) := r9
        have c42 : W9.drew.cell? ⟨z, 42, none⟩ = some (.slice none 0 0) := (VQ.out.cells r9d).c42
        have hdN : (hd : Int) ≤ (N : Int) := by omega
        have hd00 : (0 : Int) ≤ (hd : Int) := by omega
        obtain ⟨L2, hL2⟩ : ∃ L2, L2 = l.drop hd := ⟨_, rfl⟩
        have hl2 : L2.length = N - hd := by rw [hL2, List.length_drop]; have := HQQ.out; omega
        have HL2 := hide (And.intro hL2 hl2)
        have HS2 : Hid (Byt W9.drew B (if c = hd then some ⟨b, off, none⟩ else some ⟨b, off + hd, none⟩) L2) := hide (by
          have e := HY9.out.drew.sub hd (N - hd) c HLC.out
          rw [List.take_of_length_le (by rw [List.length_drop]; have := HQQ.out; omega), ← hL2] at e
          rw [Option.map_some, add_none] at e
          exact e)
        have HN2 : Hid ((if c = hd then (some ⟨b, off, none⟩ : Option Addr) else some ⟨b, off + hd, none⟩) = none → c - hd = 0) := hide (fun e => by split at e <;> cases e)
        obtain ⟨AY, hAY⟩ : ∃ A, (if c = hd then (some ⟨b, off, none⟩ : Option Addr) else some ⟨b, off + hd, none⟩) = A := ⟨_, rfl⟩
        rw [hAY] at HS2 HN2
        have HLM2 : Hid (([] : List UInt8).length + L2.length ≤ 140737488355328) := hide (by rw [hl2]; have := HQQ.out; have := HM.out; simp; omega)
        have hz9 : Hid (z < W9.heap.size) := hide (Array.getElem?_eq_some_iff.1 r9).1
        have HR9' := hide r9d
        clear hW9 hYq r9 r9d hL2 hl2 c41' f41' HR9 TK1 B9 HS1 HN1 HLM hz8 HR8 hd20' hdc c41 hAX
        go_wp2_with fail
        go_region_law (refine step_app_bytesP rfl (.tmp 86) (.tmp 89) rfl W9.heap.size (.slice none 0 0) [] L2 B (N - hd) (c - hd) _ rfl rfl HL2.out.2 (OwnB.nil _ _) HS2.out HN2.out HLM2.out (Nat.le_refl _) ?_
                       intro v10 w10 ho10 hg10 ha10
                       have hr10 := (hg10.block z hz9.out (by simp [Value.ownBlock])).trans HR9'.out
                       have ho10' : OwnB w10 W9.heap.size v10 L2 := ho10
                       obtain ⟨A2, c2, rfl, tk2⟩ := ho10'.tkh hz9.out
                       have c42' := (VQ.out.cells hr10).c42
                       have f42' := frozen_of_row w10 z 42 _ _ hr10
                       have B10 : Hid (Below W.heap.size W w10) := hide (BB9.out.drew.grown hg10 BB9.out.drew.size (fun i e => by cases e))
                       have TK1 := hide ((show TkH z W9.drew A1 c1 L1 from TK9.out).grown hg10 (fun j e => by simp [Value.ownBlock] at e))
                       have TK2 := hide tk2
                       have HR10 := hide hr10
                       clear ho10 ho10' hg10 ha10 hr10 tk2)
        go_upto_region 20 with (fail)
        obtain ⟨WX, hWX⟩ : ∃ W9, W9 = w10.setCell ⟨z, 42, none⟩ (.slice A2 L2.length c2) := ⟨_, rfl⟩
        have TKX1 : Hid (TkH z WX A1 c1 L1) := hide (by rw [hWX]; exact TK1.out.grown (grown_set w10 z 42 _) (fun j e => by cases e; exact .inl (Nat.le_refl _)))
        have TKX2 : Hid (TkH z WX A2 c2 L2) := hide (by rw [hWX]; exact TK2.out.grown (grown_set w10 z 42 _) (fun j e => by cases e; exact .inl (Nat.le_refl _)))
        have BBX : Hid (Below W.heap.size W WX) := hide (by rw [hWX]; exact B10.out.grown (grown_set w10 z 42 _) B10.out.size (fun j e => by cases e; exact F.out.2.2))
        obtain ⟨Yr, hYr⟩ : ∃ Y, Y = (ipL { sIp (p9 : Int) (p8 : Int) (p1 : Int) (p4 : Int) df sS sD with ao := A1, no := L1.length, co := c1, ad := A2, nd := L2.length, cd := c2 }).toArray := ⟨_, rfl⟩
        have rX : WX.heap[z]? = some (.cells Yr 58 (0, 0)) := by
          have e := heap_setCell_same w10 z 42 _ _ (.slice A2 L2.length c2) HR10.out
          rw [VQ.out.eq, ip_set42 _ VQ.out.ls VQ.out.ld] at e
          rw [hYr, hWX]
          exact e
        have VR : IpV Yr { sIp (p9 : Int) (p8 : Int) (p1 : Int) (p4 : Int) df sS sD with ao := A1, no := L1.length, co := c1, ad := A2, nd := L2.length, cd := c2 } := ⟨hYr, HVP.out.ls, HVP.out.ld⟩
        have hYrs : Yr.size = 43 := VR.size
        have hYro : allOne Yr = true := VR.one
        have hYre : Yr.extract 0 43 = Yr := VR.x0
        have HVR := hide VR
        have zrX := (HK.out WX BBX.out).1
        have HBWX := hide (HK.out WX BBX.out).2.1
        rw [← hWX]
        clear hWX hYr VR c42' f42' c42 hAY
        go_wp2_with fail
        have hrow := setRow_heap WX w.heap.size Z Yr _ _ zrX
        refine bodyPost_ret (results_cell_tmp (fn := Try.f30) Try.results30 _ _ w.heap.size 58 Yr (0, 0) _ rfl hrow Try.underlying58 rfl (by rw [hYrs]; exact info_rip)) rfl ?_
        have hzw : w.heap.size < z := by have := F.out.2.2; have := hWs.out; omega
        have gX := setRow_grown WX w.heap.size Yr
        refine ⟨_, by rw [hE.out]; rfl, below_setRow HBWX.out (Nat.le_refl _) _, fun h0 => absurd hE.out h0, fun _ => ⟨A1, c1, A2, c2, ?_, ?_, ?_⟩⟩
        · have e : p4H l A1 c1 A2 c2 = { sIp (p9 : Int) (p8 : Int) (p1 : Int) (p4 : Int) df sS sD with ao := A1, no := L1.length, co := c1, ad := A2, nd := L2.length, cd := c2 } := by
            unfold p4H sIp
            rw [← HPP.out.1, ← HPP.out.2.1, ← HPP.out.2.2.1, ← HPP.out.2.2.2, ← HSD.out.1, ← HSD.out.2, ← HDF.out, HL1.out.2, HL2.out.2, ← HQQ.out.1, ← HQQ.out.2.1, ← HQQ.out.2.2.1]
          rw [e]
          exact HVR.out
        · have e := (TKX1.out.grown gX (fun j e => by cases e; exact .inl (Nat.le_of_lt hzw))).gave (w := w) (Nat.le_of_lt hzw)
          rw [HL1.out.1, HQQ.out.2.1, HQQ.out.1] at e
          exact e
        · have e := (TKX2.out.grown gX (fun j e => by cases e; exact .inl (Nat.le_of_lt hzw))).gave (w := w) (Nat.le_of_lt hzw)
          rw [HL2.out.1, HQQ.out.2.1, HQQ.out.1] at e
          exact e)
end Go.Proofs.Ytdlilokmfekndaa

end
section
/-
  The walk of the document's own Parse of a packet of six.
-/
namespace Go.Proofs.Ytdlilokmfekndaa
open Go.RowKit
attribute [local go_sem ↓] exec_span exec_put exec_build heap_alloc_new heap_old
attribute [local go_sem] spanQ_ptr spanC_some heap_of_drew heap_of_drewN rs_arr rs_ad rs_ip rs_rip putAt_ptr putOk_ptr oldOk_some World.setRow_alloc_new
set_option maxRecDepth 100000
set_option linter.unusedVariables false
set_option linter.unusedSimpArgs false

theorem built_xA (a b : Int) (b0 b1 b2 b3 b4 b5 b6 b7 b8 b9 b10 b11 b12 b13 b14 b15 c0 c1 c2 c3 c4 c5 c6 c7 c8 c9 c10 c11 c12 c13 c14 c15 : UInt8) :
    Try.prog.built 58 [(0, .bool true), (1, .agg (adL true [b0, b1, b2, b3, b4, b5, b6, b7, b8, b9, b10, b11, b12, b13, b14, b15]).toArray), (2, .agg (adL true [c0, c1, c2, c3, c4, c5, c6, c7, c8, c9, c10, c11, c12, c13, c14, c15]).toArray), (3, .int .i64 a), (4, .int .i64 b)] = some (ipL (mIp true true a b 0 0 [b0, b1, b2, b3, b4, b5, b6, b7, b8, b9, b10, b11, b12, b13, b14, b15] [c0, c1, c2, c3, c4, c5, c6, c7, c8, c9, c10, c11, c12, c13, c14, c15])).toArray := by kernel_rfl
theorem built_x6 (a b : Int) (S D : List UInt8) (ls : S.length = 16) (ld : D.length = 16) : Try.prog.built 58 [(0, .bool true), (1, .agg (adL true S).toArray), (2, .agg (adL true D).toArray), (3, .int .i64 a), (4, .int .i64 b)] = some (ipL (mIp true true a b 0 0 S D)).toArray := by
  match S, D, ls, ld with
  | [_, _, _, _, _, _, _, _, _, _, _, _, _, _, _, _], [_, _, _, _, _, _, _, _, _, _, _, _, _, _, _, _], _, _ => exact built_xA _ _ _ _ _ _ _ _ _ _ _ _ _ _ _ _ _ _ _ _ _ _ _ _ _ _ _ _ _ _ _ _ _ _
theorem nmB_quad {l : List UInt8} (h : 3 < l.length) : nmB l 0 4 = nmB l 0 1 * 16777216 + nmB l 1 1 * 65536 + nmB l 2 2 := by
  rw [nmB_at4 (show 0 < l.length by omega), nmB_at4 (show 1 < l.length by omega), nmB_pair (k := 2) h]
  unfold nmB
  rw [List.drop_eq_getElem_cons (show 0 < l.length by omega), List.drop_eq_getElem_cons (show 0 + 1 < l.length by omega), List.drop_eq_getElem_cons (show 0 + 1 + 1 < l.length by omega), List.drop_eq_getElem_cons (show 0 + 1 + 1 + 1 < l.length by omega)]
  show numS [l[0], l[1], l[2], l[3]] = _
  simp [numS]
  omega
/-- a number of a packet set. -/
theorem set_tos {w : World} {P : Nat} {X : Array Value} {h : Ip} (x : IpV X h) {t : TypeId} (r : w.heap[P]? = some (.cells X t (0, 0))) (T : Int) :
    (w.setCell ⟨P, 37, none⟩ (.int .i64 T)).heap[P]? = some (.cells (ipL { h with tos := T }).toArray t (0, 0)) := by
  have h1 := heap_setCell_same w P 37 _ _ (.int .i64 T) r
  rw [h1, x.eq]
  congr 2
  rw [List.setIfInBounds_toArray]
  congr 1
  have e1 := lenI_adL (v := h.sv) x.ls
  have e2 := lenI_adL (v := h.dv) x.ld
  simp only [ipL]
  simp [List.set_append, e1, e2]
  rfl
theorem set_lab {w : World} {P : Nat} {X : Array Value} {h : Ip} (x : IpV X h) {t : TypeId} (r : w.heap[P]? = some (.cells X t (0, 0))) (T : Int) :
    (w.setCell ⟨P, 40, none⟩ (.int .i64 T)).heap[P]? = some (.cells (ipL { h with lab := T }).toArray t (0, 0)) := by
  have h1 := heap_setCell_same w P 40 _ _ (.int .i64 T) r
  rw [h1, x.eq]
  congr 2
  rw [List.setIfInBounds_toArray]
  congr 1
  have e1 := lenI_adL (v := h.sv) x.ls
  have e2 := lenI_adL (v := h.dv) x.ld
  simp only [ipL]
  simp [List.set_append, e1, e2]
  rfl

set_option maxHeartbeats 8000000 in
theorem refsix_any (w : World) (B : Nat) (A : Option Addr) (c : Nat) (l : List UInt8) (hlc : l.length ≤ c) (hn : l.length ≤ 140737488355328) (hb : Byt w B A l) (hB : B ≤ w.heap.size) :
    Calls Try.prog 31 #[.slice A l.length c] w fun e w' => P6 w l e w' := by
  obtain ⟨Z, hZ⟩ : ∃ Z, Z = (ipL (nIp 0 0 0 0 false)).toArray := ⟨_, rfl⟩
  have hbn := built_noneRI
  rw [← hZ] at hbn
  have VZ : IpV Z (nIp 0 0 0 0 false) := by rw [hZ]; exact nIp_ok _ _ _ _ _
  have hZs : Z.size = 43 := VZ.size
  have hZo : allOne Z = true := VZ.one
  have HZE := hide hZ
  obtain ⟨W, hW⟩ : ∃ W, w.alloc (.cells Z 58) = W := ⟨_, rfl⟩
  have zr : W.heap[w.heap.size]? = some (.cells Z 58 (0, 0)) := by rw [← hW]; exact heap_alloc_new w _
  have hbW : Below w.heap.size w W := by rw [← hW]; exact (Below.refl _ _).alloc (Nat.le_refl _) _
  have HB := hide hbW
  have HZR := hide zr
  have HW := hide hW
  have HM := hide hn
  have HLC := hide hlc
  have HBB := hide hB
  have HBY := hide hb
  have hWs : Hid (W.heap.size = w.heap.size + 1) := hide (by rw [← hW]; exact World.size_alloc _ _)
  have HK : Hid (∀ W1 : World, Below W.heap.size W W1 → W1.heap[w.heap.size]? = some (.cells Z 58 (0, 0)) ∧ Below w.heap.size w W1 ∧ Byt W1 B A l ∧ B ≤ W1.heap.size) := hide (fun W1 b1 => by
    have h1 := HB.out.trans (b1.mono HB.out.size)
    exact ⟨(b1.block _ (by have := hWs.out; omega)).trans HZR.out, h1, HBY.out.below (h1.mono HBB.out), Nat.le_trans HBB.out h1.size⟩)
  by_cases h40 : l.length < 40
  · have hE : Hid (p6E l = 10) := hide (by unfold p6E; rw [if_pos h40])
    have hlt : (l.length : Int) < 40 := by omega
    clear hZ hW hbW hlc hn hb hB VZ
    go_enter Try.func31, Try.ntmps31
    go_upto_region 1 with (fail)
    change Code.wp _ _ _ _ (w.alloc (.cells (ipL (nIp 0 0 0 0 false)).toArray 58))
    rw [← HZE.out, HW.out]
    go_wp2_with fail
    have hrow := setRow_heap W w.heap.size Z Z _ _ zr
    refine bodyPost_ret (results_cell_tmp (fn := Try.f31) Try.results31 _ _ w.heap.size 58 Z (0, 0) _ rfl hrow Try.underlying58 rfl (by rw [hZs]; exact info_rip)) rfl ?_
    exact p6_errZ HZE.out hE.out (by decide) (below_setRow HB.out (Nat.le_refl _) _)
  · have hlt : ¬ (l.length : Int) < 40 := by omega
    have hEE : Hid (p6E l = if l.length - 40 < nmB l 4 2 then 10 else if nmB l 4 2 < l.length - 40 then 11 else 0) := hide (by unfold p6E; rw [if_neg h40])
    obtain ⟨b, off, hA, hbB, hcell⟩ := hb (by omega)
    subst hA
    have HC : Hid (∀ W1 : World, Below w.heap.size w W1 → ∀ i (hi : i < l.length), W1.cell? ⟨b, off + i, none⟩ = some (.int .u8 ((nmB l i 1 : Nat) : Int))) := hide (fun W1 b1 i hi => by
      rw [nmB_at4 hi]
      exact (b1.cell (p := ⟨b, off + i, none⟩) (by show b < _; omega)).trans (hcell i hi))
    have KTWO : Hid (∀ (W1 : World), Below W.heap.size W W1 → ∀ k, k + 1 < l.length → k ≤ 100 → Calls Try.prog 56 #[.slice (some ⟨b, off, none⟩) l.length c, .int .i64 (k : Int)] W1 fun e w' => e = .returned (.int .i64 ((nmB l k 2 : Nat) : Int)) ∧ Below W1.heap.size W1 w') := hide (fun W1 b1 k hk hk2 => two4_any W1 B _ c l k hk hk2 HM.out (HK.out W1 b1).2.2.1)
    have KTAK : Hid (∀ (W1 : World), Below W.heap.size W W1 → ∀ k, k + 16 ≤ l.length → k ≤ 100 → Calls Try.prog 58 #[.slice (some ⟨b, off, none⟩) l.length c, .int .i64 (k : Int), .int .i64 ((16 : Nat) : Int)] W1 fun e w' => (∃ Y, e = .returned (.agg Y) ∧ AdV Y true (pad16 ((l.drop k).take 16))) ∧ Below W1.heap.size W1 w') := hide (fun W1 b1 k hk hk2 => taken4_any W1 B _ c l k 16 true (.inr ⟨rfl, rfl⟩) hk HLC.out hk2 HM.out (HK.out W1 b1).2.2.1 (HK.out W1 b1).2.2.2)
    have KT4 : Hid (∀ (W1 : World), Below W.heap.size W W1 → Calls Try.prog 56 #[.slice (some ⟨b, off, none⟩) l.length c, .int .i64 4] W1 fun e w' => e = .returned (.int .i64 ((nmB l 4 2 : Nat) : Int)) ∧ Below W1.heap.size W1 w') := hide (fun W1 b1 => KTWO.out W1 b1 4 (by omega) (by decide))
    have KT2 : Hid (∀ (W1 : World), Below W.heap.size W W1 → Calls Try.prog 56 #[.slice (some ⟨b, off, none⟩) l.length c, .int .i64 2] W1 fun e w' => e = .returned (.int .i64 ((nmB l 2 2 : Nat) : Int)) ∧ Below W1.heap.size W1 w') := hide (fun W1 b1 => KTWO.out W1 b1 2 (by omega) (by decide))
    have KA : Hid (∀ (W1 : World), Below W.heap.size W W1 → Calls Try.prog 58 #[.slice (some ⟨b, off, none⟩) l.length c, .int .i64 8, .int .i64 16] W1 fun e w' => (∃ Y, e = .returned (.agg Y) ∧ AdV Y true (pad16 ((l.drop 8).take 16))) ∧ Below W1.heap.size W1 w') := hide (fun W1 b1 => KTAK.out W1 b1 8 (by omega) (by decide))
    have KB : Hid (∀ (W1 : World), Below W.heap.size W W1 → Calls Try.prog 58 #[.slice (some ⟨b, off, none⟩) l.length c, .int .i64 24, .int .i64 16] W1 fun e w' => (∃ Y, e = .returned (.agg Y) ∧ AdV Y true (pad16 ((l.drop 24).take 16))) ∧ Below W1.heap.size W1 w') := hide (fun W1 b1 => KTAK.out W1 b1 24 (by omega) (by decide))
    obtain ⟨N, hN⟩ : ∃ N, N = l.length := ⟨_, rfl⟩
    obtain ⟨n4, hn4⟩ : ∃ n, n = nmB l 4 2 := ⟨_, rfl⟩
    obtain ⟨n2, hn2⟩ : ∃ n, n = nmB l 2 2 := ⟨_, rfl⟩
    obtain ⟨sS, hsS⟩ : ∃ x, x = pad16 ((l.drop 8).take 16) := ⟨_, rfl⟩
    obtain ⟨sD, hsD⟩ : ∃ x, x = pad16 ((l.drop 24).take 16) := ⟨_, rfl⟩
    obtain ⟨b0, hb0⟩ : ∃ n, n = nmB l 0 1 := ⟨_, rfl⟩
    obtain ⟨b1', hb1'⟩ : ∃ n, n = nmB l 1 1 := ⟨_, rfl⟩
    obtain ⟨p6, hp6⟩ : ∃ n, n = nmB l 6 1 := ⟨_, rfl⟩
    obtain ⟨p7, hp7⟩ : ∃ n, n = nmB l 7 1 := ⟨_, rfl⟩
    have l0 : b0 < 256 := by rw [hb0, nmB_at4 (show 0 < l.length by omega)]; exact UInt8.toNat_lt _
    have l1 : b1' < 256 := by rw [hb1', nmB_at4 (show 1 < l.length by omega)]; exact UInt8.toNat_lt _
    have l6 : p6 < 256 := by rw [hp6, nmB_at4 (show 6 < l.length by omega)]; exact UInt8.toNat_lt _
    have l7 : p7 < 256 := by rw [hp7, nmB_at4 (show 7 < l.length by omega)]; exact UInt8.toNat_lt _
    have l2 : n2 < 65536 := by rw [hn2]; have := nmB_two l 2; omega
    have hSl : sS.length = 16 := by rw [hsS]; exact len_pad16 (by rw [List.length_take]; omega)
    have hDl : sD.length = 16 := by rw [hsD]; exact len_pad16 (by rw [List.length_take]; omega)
    have hquad := nmB_quad (l := l) (by omega)
    rw [← hb0, ← hb1', ← hn2] at hquad
    have HC4 : Hid (∀ W1 : World, Below W.heap.size W W1 → W1.cell? ⟨b, off, none⟩ = some (.int .u8 (b0 : Int)) ∧ W1.cell? ⟨b, off + 1, none⟩ = some (.int .u8 (b1' : Int)) ∧ W1.cell? ⟨b, off + 6, none⟩ = some (.int .u8 (p6 : Int)) ∧ W1.cell? ⟨b, off + 7, none⟩ = some (.int .u8 (p7 : Int))) := hide (fun W1 h1' => by
      have h1 := (HK.out W1 h1').2.1
      rw [hb0, hb1', hp6, hp7]
      exact ⟨HC.out W1 h1 0 (by omega), HC.out W1 h1 1 (by omega), HC.out W1 h1 6 (by omega), HC.out W1 h1 7 (by omega)⟩)
    have HPP := hide (And.intro hp6 (And.intro hp7 (And.intro hsS hsD)))
    have HQD := hide hquad
    have HN := hide (And.intro hN hn4)
    have HNN : Hid (40 ≤ N) := hide (by omega)
    rw [← hn4, ← hN] at hEE
    rw [← hn4] at KT4
    rw [← hn2] at KT2
    rw [← hsS] at KA
    rw [← hsD] at KB
    rw [← hN] at hlt KT2 KT4 KA KB ⊢
    have hw40 : IntKind.i64.wrap ((N : Int) - 40) = (N : Int) - 40 := IntWalk.i64_in _ (by have := HM.out; omega)
    have v6 : IntKind.i64.wrap (p6 : Int) = (p6 : Int) := IntWalk.i64_in _ (by omega)
    have v7 : IntKind.i64.wrap (p7 : Int) = (p7 : Int) := IntWalk.i64_in _ (by omega)
    obtain ⟨q0, hq0⟩ : ∃ q, q = b0 % 16 := ⟨_, rfl⟩
    obtain ⟨q1, hq1⟩ : ∃ q, q = b1' % 16 := ⟨_, rfl⟩
    obtain ⟨h1, hh1⟩ : ∃ q, q = b1' / 16 := ⟨_, rfl⟩
    have m0 : (b0 : Int) % 16 = (q0 : Int) := by omega
    have m1 : (b1' : Int) % 16 = (q1 : Int) := by omega
    have d1 : (b1' : Int) / 16 = (h1 : Int) := by omega
    have m0t : (b0 : Int).tmod 16 = (q0 : Int) := by rw [Int.tmod_eq_emod_of_nonneg (by omega)]; exact m0
    have m1t : (b1' : Int).tmod 16 = (q1 : Int) := by rw [Int.tmod_eq_emod_of_nonneg (by omega)]; exact m1
    have w0 : IntKind.u8.wrap (q0 : Int) = (q0 : Int) := IntWalk.u8_in _ (by omega)
    have w0' : IntKind.i64.wrap (q0 : Int) = (q0 : Int) := IntWalk.i64_in _ (by omega)
    have w1 : IntKind.u8.wrap (q1 : Int) = (q1 : Int) := IntWalk.u8_in _ (by omega)
    have w1' : IntKind.i64.wrap (q1 : Int) = (q1 : Int) := IntWalk.i64_in _ (by omega)
    have w2 : IntKind.u8.wrap (h1 : Int) = (h1 : Int) := IntWalk.u8_in _ (by omega)
    have w2' : IntKind.i64.wrap (h1 : Int) = (h1 : Int) := IntWalk.i64_in _ (by omega)
    have w3 : IntKind.i64.wrap ((q0 : Int) * 16) = (q0 : Int) * 16 := IntWalk.i64_in _ (by omega)
    have w4 : IntKind.i64.wrap ((q1 : Int) * 65536) = (q1 : Int) * 65536 := IntWalk.i64_in _ (by omega)
    obtain ⟨T, hT⟩ : ∃ q, q = q0 * 16 + h1 := ⟨_, rfl⟩
    obtain ⟨Lb, hLb⟩ : ∃ q, q = q1 * 65536 + n2 := ⟨_, rfl⟩
    have o1 : bits .or .i64 ((q0 : Int) * 16) (h1 : Int) = (T : Int) := by
      have e := i64_or_join 4 (q0 * 16) h1 (by omega) (by omega) (by omega) (by omega)
      rw [hT]
      rw [← e]
      rfl
    have o2 : bits .or .i64 ((q1 : Int) * 65536) (n2 : Int) = (Lb : Int) := by
      have e := i64_or_join 16 (q1 * 65536) n2 (by omega) (by omega) (by omega) (by omega)
      rw [hLb]
      rw [← e]
      rfl
    have HTL : Hid (nmB l 0 4 / 1048576 % 256 = T ∧ nmB l 0 4 % 1048576 = Lb) := hide (by rw [hquad]; omega)
    have hN6 : (6 : Int) < (N : Int) ∧ (7 : Int) < (N : Int) ∧ (1 : Int) < (N : Int) ∧ (0 : Int) < (N : Int) := by omega
    obtain ⟨hN6, hN7, hN1, hN0⟩ := hN6
    have hN0' : 0 < N := by omega
    have hN1' : 1 < N := by omega
    have hN6' : 6 < N := by omega
    have hN7' : 7 < N := by omega
    have HSD := hide (And.intro hSl hDl)
    clear hZ hW hbW hlc hn hb hB VZ h40 hcell hN hn4 hn2 hsS hsD hb0 hb1' hp6 hp7 hquad hbB l0 l1 l6 l7 l2 hq0 hq1 hh1 hT hLb hSl hDl KTWO KTAK
    go_enter Try.func31, Try.ntmps31
    go_upto_region 1 with (fail)
    change Code.wp _ _ _ _ (w.alloc (.cells (ipL (nIp 0 0 0 0 false)).toArray 58))
    rw [← HZE.out, HW.out]
    go_wp2_with fail
    refine (KT4.out W (Below.refl _ _)).mono ?_
    rintro e W1 ⟨rfl, b1⟩
    have B1 : Hid (Below W.heap.size W W1) := hide b1
    have zr := (HK.out W1 b1).1
    have HBW1 := hide (HK.out W1 b1).2.1
    clear b1
    dsimp only
    by_cases hlt4 : N - 40 < n4
    · have hE : Hid (p6E l = 10) := hide (by rw [hEE.out, if_pos hlt4])
      have hb1 : (N : Int) - 40 < (n4 : Int) := by have := HNN.out; omega
      go_wp2_with fail
      have hrow := setRow_heap W1 w.heap.size Z Z _ _ zr
      refine bodyPost_ret (results_cell_tmp (fn := Try.f31) Try.results31 _ _ w.heap.size 58 Z (0, 0) _ rfl hrow Try.underlying58 rfl (by rw [hZs]; exact info_rip)) rfl ?_
      exact p6_errZ HZE.out hE.out (by decide) (below_setRow HBW1.out (Nat.le_refl _) _)
    have hb1 : ¬ (N : Int) - 40 < (n4 : Int) := by have := HNN.out; omega
    go_wp2_with fail
    refine (KT4.out W1 B1.out).mono ?_
    rintro e W2 ⟨rfl, b2⟩
    have B2 : Hid (Below W.heap.size W W2) := hide (B1.out.trans (b2.mono B1.out.size))
    have zr := (HK.out W2 B2.out).1
    have HBW2 := hide (HK.out W2 B2.out).2.1
    clear b2 KT4 B1 HBW1
    dsimp only
    by_cases hgt4 : n4 < N - 40
    · have hE : Hid (p6E l = 11) := hide (by rw [hEE.out, if_neg hlt4, if_pos hgt4])
      have hb2 : (n4 : Int) < (N : Int) - 40 := by have := HNN.out; omega
      go_wp2_with fail
      have hrow := setRow_heap W2 w.heap.size Z Z _ _ zr
      refine bodyPost_ret (results_cell_tmp (fn := Try.f31) Try.results31 _ _ w.heap.size 58 Z (0, 0) _ rfl hrow Try.underlying58 rfl (by rw [hZs]; exact info_rip)) rfl ?_
      exact p6_errZ HZE.out hE.out (by decide) (below_setRow HBW2.out (Nat.le_refl _) _)
    have hb2 : ¬ (n4 : Int) < (N : Int) - 40 := by have := HNN.out; omega
    have hE : Hid (p6E l = 0) := hide (by rw [hEE.out, if_neg hlt4, if_neg hgt4])
    clear hlt4 hgt4 hEE
    go_upto_region 5 with (fail)
    obtain ⟨d0, d1', d6, d7⟩ := HC4.out W2 B2.out
    obtain ⟨e0, e1, e6, e7⟩ := HC4.out W2.drew B2.out.drew
    go_cut [4] from 24 to 37 (fun p wx => FourQ W wx p (mIp true true (p6 : Int) (p7 : Int) 0 0 sS sD))
    case first =>
      obtain ⟨Yp, hYp⟩ : ∃ Y, Y = (ipL (mIp true true (p6 : Int) (p7 : Int) 0 0 sS sD)).toArray := ⟨_, rfl⟩
      have VP : IpV Yp (mIp true true (p6 : Int) (p7 : Int) 0 0 sS sD) := ⟨hYp, HSD.out.1, HSD.out.2⟩
      have hYps : Yp.size = 43 := VP.size
      have hYpo : allOne Yp = true := VP.one
      have HVP := hide VP
      have HBU : Hid (∀ Y1 Y2, AdV Y1 true sS → AdV Y2 true sD → Try.prog.built 58 [(0, .bool true), (1, .agg Y1), (2, .agg Y2), (3, .int .i64 (p6 : Int)), (4, .int .i64 (p7 : Int))] = some Yp) := hide (fun Y1 Y2 y1 y2 => by rw [y1.eq, y2.eq, hYp]; exact built_x6 _ _ _ _ HSD.out.1 HSD.out.2)
      clear hYp VP
      go_region_held3 (fun w' => w'.cell? ⟨b, off + 6, none⟩ = some (.int .u8 (p6 : Int)) ∧ w'.cell? ⟨b, off + 7, none⟩ = some (.int .u8 (p7 : Int)))
        (first | exact ⟨d6, d7⟩ | exact ⟨e6, e7⟩ | exact ⟨f6, f7⟩ | exact ⟨g6, g7⟩ | exact (HC4.out _ (B4.out.alloc B4.out.size _)).2.2 | exact (HC4.out _ (B3.out.alloc B3.out.size _)).2.2 | exact (HC4.out _ (B2.out.drew.alloc B2.out.drew.size _)).2.2 | exact (HC4.out _ (B2.out.alloc B2.out.size _).drew).2.2 | exact (HC4.out _ (B2.out.alloc B2.out.size _)).2.2 | exact (HC4.out _ (below_setRow B4.out B3.out.size _)).2.2 | exact (HC4.out _ (below_setRow B4.out B2.out.size _)).2.2 | fail)
        (first
          | (go_at_call 58; (first | with_reducible refine (KA.out _ B2.out.drew).mono ?_ | with_reducible refine (KA.out _ (B2.out.alloc B2.out.size _).drew).mono ?_); rintro e w3 ⟨⟨Y1, rfl, y1⟩, b3⟩; have B3 : Hid (Below W.heap.size W w3) := hide (by first | exact B2.out.drew.trans (b3.mono B2.out.drew.size) | exact (B2.out.alloc B2.out.size _).drew.trans (b3.mono (B2.out.alloc B2.out.size _).drew.size)); obtain ⟨f0, f1, f6, f7⟩ := HC4.out w3 B3.out; have HY1 := hide y1; (first | (have rz : w3.heap[W2.heap.size]? = some (.cells Z 58 (0, 0)) := by rw [HZE.out]; exact (b3.block W2.heap.size (by show W2.heap.size < (W2.alloc _).heap.size; rw [World.size_alloc]; exact Nat.lt_succ_self _)).trans (heap_alloc_new W2 _)) | skip); clear b3 y1)
          | (go_at_call 58; (first | with_reducible refine (KB.out _ B3.out).mono ?_ | with_reducible refine (KB.out _ (B3.out.alloc B3.out.size _)).mono ?_); rintro e w4 ⟨⟨Y2, rfl, y2⟩, b4⟩; have B4 : Hid (Below W.heap.size W w4) := hide (by first | exact B3.out.trans (b4.mono B3.out.size) | exact (B3.out.alloc B3.out.size _).trans (b4.mono (B3.out.alloc B3.out.size _).size)); obtain ⟨g0, g1, g6, g7⟩ := HC4.out w4 B4.out; have HY2 := hide y2; have hbu := HBU.out _ _ HY1.out HY2.out; (first | (have rz := (b4.block _ (Array.getElem?_eq_some_iff.1 rz).1).trans rz) | (have rz : w4.heap[w3.heap.size]? = some (.cells Z 58 (0, 0)) := by rw [HZE.out]; exact (b4.block w3.heap.size (by rw [World.size_alloc]; exact Nat.lt_succ_self _)).trans (heap_alloc_new w3 _)) | skip); clear b4 y2)
          | fail)
      all_goals (
        try go_wp2_with fail
        go_meet
        first
          | exact ⟨w4.heap.size, Yp, rfl, heap_alloc_new w4 _, HVP.out, B4.out.alloc B4.out.size _, B4.out.size⟩
          | exact ⟨w3.heap.size, Yp, rfl, setRow_heap w4 _ _ Yp _ _ rz, HVP.out, below_setRow B4.out B3.out.size _, B3.out.size⟩
          | exact ⟨W2.heap.size, Yp, rfl, setRow_heap w4 _ _ Yp _ _ rz, HVP.out, below_setRow B4.out B2.out.size _, B2.out.size⟩
          | fail)
    case rest =>
      obtain ⟨z, Yp, rfl, f1, f2, f3, f4⟩ := hcut
      obtain ⟨W8, hW8⟩ : ∃ W8, W8 = wc := ⟨_, rfl⟩
      rw [← hW8] at f1 f3
      have F : Hid (W8.heap[z]? = some (.cells Yp 58 (0, 0)) ∧ Below W.heap.size W W8 ∧ W.heap.size ≤ z) := hide ⟨f1, f3, f4⟩
      have HVP := hide f2
      rw [← hW8]
      clear hW8 f1 f2 f3 f4 zr d0 d1' d6 d7 e0 e1 e6 e7 KA KB
      go_upto_region 6 with (fail)
      obtain ⟨d0, d1', -, -⟩ := HC4.out W8 F.out.2.1
      obtain ⟨e0, e1, -, -⟩ := HC4.out W8.drew F.out.2.1.drew
      have k37 := (HVP.out.cells F.out.1).c37
      have f37 := frozen_of_row W8 z 37 _ _ F.out.1
      have k37d : W8.drew.cell? ⟨z, 37, none⟩ = some (.int .i64 0) := k37
      have f37d : W8.drew.frozen? ⟨z, 37, none⟩ = false := f37
      have r9 := set_tos HVP.out F.out.1 (T : Int)
      have g9 := grown_set W8 z 37 (.int .i64 (T : Int))
      obtain ⟨W9, hW9⟩ : ∃ W9, (W8.setCell ⟨z, 37, none⟩ (.int .i64 (T : Int))).drew = W9 := ⟨_, rfl⟩
      have r9' : W9.heap[z]? = some (.cells (ipL (mIp true true (p6 : Int) (p7 : Int) (T : Int) 0 sS sD)).toArray 58 (0, 0)) := by rw [← hW9]; exact r9
      have B9 : Hid (Below W.heap.size W W9) := hide (by rw [← hW9]; exact (F.out.2.1.grown g9 F.out.2.1.size (fun i e => by cases e; exact F.out.2.2)).drew)
      have HR9 := hide r9'
      obtain ⟨h0, h1', -, -⟩ := HC4.out W9 B9.out
      clear g9 r9 r9'
      go_region_held3 (fun w' => w'.cell? ⟨b, off, none⟩ = some (.int .u8 (b0 : Int)) ∧ w'.cell? ⟨b, off + 1, none⟩ = some (.int .u8 (b1' : Int)))
        (first | exact ⟨e0, e1⟩ | exact ⟨d0, d1'⟩ | exact ⟨h0, h1'⟩ | fail) (fail)
      all_goals (
        go_upto_region 7 with (fail)
        clear hW9 k37 f37 k37d f37d d0 d1' e0 e1
        have VQ : Hid (IpV (ipL (mIp true true (p6 : Int) (p7 : Int) (T : Int) 0 sS sD)).toArray (mIp true true (p6 : Int) (p7 : Int) (T : Int) 0 sS sD)) := hide ⟨rfl, HSD.out.1, HSD.out.2⟩
        have h1d : W9.drew.cell? ⟨b, off + 1, none⟩ = some (.int .u8 (b1' : Int)) := h1'
        go_region_held3 (fun w' => w'.cell? ⟨b, off + 1, none⟩ = some (.int .u8 (b1' : Int)))
          (first | exact h1' | exact h1d | exact i1 | exact j1 | fail)
          (first
            | (go_at_call 56; (with_reducible refine (KT2.out W9.drew B9.out.drew).mono ?_); rintro e w10 ⟨rfl, b10⟩
               have B10 : Hid (Below W.heap.size W w10) := hide (B9.out.drew.trans (b10.mono B9.out.drew.size))
               have r10 : w10.heap[z]? = some (.cells (ipL (mIp true true (p6 : Int) (p7 : Int) (T : Int) 0 sS sD)).toArray 58 (0, 0)) := (b10.block z (Array.getElem?_eq_some_iff.1 HR9.out).1).trans HR9.out
               have i1 := (HC4.out w10 B10.out).2.1
               have k40 := (VQ.out.cells r10).c40
               have f40 := frozen_of_row w10 z 40 _ _ r10
               have r11 := set_lab VQ.out r10 (Lb : Int)
               have g11 := grown_set w10 z 40 (.int .i64 (Lb : Int))
               obtain ⟨W11, hW11⟩ : ∃ W11, w10.setCell ⟨z, 40, none⟩ (.int .i64 (Lb : Int)) = W11 := ⟨_, rfl⟩
               rw [hW11] at r11 g11
               have B11 : Hid (Below W.heap.size W W11) := hide (B10.out.grown g11 B10.out.size (fun i e => by cases e; exact F.out.2.2))
               have HR11 := hide r11
               have j1 := (HC4.out W11 B11.out).2.1
               clear b10 r10 r11 g11)
            | fail)
        all_goals (
          go_upto_region 8 with (fail)
          clear hW11 k40 f40 i1 j1 h1' h1d
          obtain ⟨Yq, hYq⟩ : ∃ Y, Y = (ipL (mIp true true (p6 : Int) (p7 : Int) (T : Int) (Lb : Int) sS sD)).toArray := ⟨_, rfl⟩
          have r9 : W11.heap[z]? = some (.cells Yq 58 (0, 0)) := by rw [hYq]; exact HR11.out
          have VQ : Hid (IpV Yq (mIp true true (p6 : Int) (p7 : Int) (T : Int) (Lb : Int) sS sD)) := hide ⟨hYq, HSD.out.1, HSD.out.2⟩
          have HY9 := hide (HK.out W11 B11.out).2.2.1
          have r9d : W11.drew.heap[z]? = some (.cells Yq 58 (0, 0)) := r9
          have c42 : W11.drew.cell? ⟨z, 42, none⟩ = some (.slice none 0 0) := (VQ.out.cells r9d).c42
          have hdN : (40 : Int) ≤ (N : Int) := by have := HNN.out; omega
          obtain ⟨L2, hL2⟩ : ∃ L2, L2 = l.drop 40 := ⟨_, rfl⟩
          have hl2 : L2.length = N - 40 := by rw [hL2, List.length_drop, HN.out.1]
          have HL2 := hide (And.intro hL2 hl2)
          have HS2 : Hid (Byt W11.drew B (if c = 40 then some ⟨b, off, none⟩ else some ⟨b, off + 40, none⟩) L2) := hide (by
            have e := HY9.out.drew.sub 40 (N - 40) c HLC.out
            rw [List.take_of_length_le (by rw [List.length_drop]; have := HN.out.1; omega), ← hL2] at e
            rw [Option.map_some, add_none] at e
            exact e)
          have HN2 : Hid ((if c = 40 then (some ⟨b, off, none⟩ : Option Addr) else some ⟨b, off + 40, none⟩) = none → c - 40 = 0) := hide (fun e => by split at e <;> cases e)
          obtain ⟨AY, hAY⟩ : ∃ A, (if c = 40 then (some ⟨b, off, none⟩ : Option Addr) else some ⟨b, off + 40, none⟩) = A := ⟨_, rfl⟩
          rw [hAY] at HS2 HN2
          have HLM2 : Hid (([] : List UInt8).length + L2.length ≤ 140737488355328) := hide (by rw [hl2]; have := HN.out.1; have := HM.out; simp; omega)
          have hz9 : Hid (z < W11.heap.size) := hide (Array.getElem?_eq_some_iff.1 r9).1
          have HR9' := hide r9d
          clear hYq r9 r9d hL2 hl2
          go_wp2_with fail
          go_region_law (refine step_app_bytesP rfl (.tmp 61) (.tmp 63) rfl W11.heap.size (.slice none 0 0) [] L2 B (N - 40) (c - 40) _ rfl rfl HL2.out.2 (OwnB.nil _ _) HS2.out HN2.out HLM2.out (Nat.le_refl _) ?_
                         intro v10 w10 ho10 hg10 ha10
                         have hr10 := (hg10.block z hz9.out (by simp [Value.ownBlock])).trans HR9'.out
                         have ho10' : OwnB w10 W11.heap.size v10 L2 := ho10
                         obtain ⟨A2, c2, rfl, tk2⟩ := ho10'.tkh hz9.out
                         have c42' := (VQ.out.cells hr10).c42
                         have f42' := frozen_of_row w10 z 42 _ _ hr10
                         have B10 : Hid (Below W.heap.size W w10) := hide (B11.out.drew.grown hg10 B11.out.drew.size (fun i e => by cases e))
                         have TK2 := hide tk2
                         have HR10 := hide hr10
                         clear ho10 ho10' hg10 ha10 hr10 tk2)
          go_upto_region 9 with (fail)
          obtain ⟨WX, hWX⟩ : ∃ W9, W9 = w10.setCell ⟨z, 42, none⟩ (.slice A2 L2.length c2) := ⟨_, rfl⟩
          have TKX2 : Hid (TkH z WX A2 c2 L2) := hide (by rw [hWX]; exact TK2.out.grown (grown_set w10 z 42 _) (fun j e => by cases e; exact .inl (Nat.le_refl _)))
          have BBX : Hid (Below W.heap.size W WX) := hide (by rw [hWX]; exact B10.out.grown (grown_set w10 z 42 _) B10.out.size (fun j e => by cases e; exact F.out.2.2))
          obtain ⟨Yr, hYr⟩ : ∃ Y, Y = (ipL { mIp true true (p6 : Int) (p7 : Int) (T : Int) (Lb : Int) sS sD with ad := A2, nd := L2.length, cd := c2 }).toArray := ⟨_, rfl⟩
          have rX : WX.heap[z]? = some (.cells Yr 58 (0, 0)) := by
            have e := heap_setCell_same w10 z 42 _ _ (.slice A2 L2.length c2) HR10.out
            rw [VQ.out.eq, ip_set42 _ VQ.out.ls VQ.out.ld] at e
            rw [hYr, hWX]
            exact e
          have VR : IpV Yr { mIp true true (p6 : Int) (p7 : Int) (T : Int) (Lb : Int) sS sD with ad := A2, nd := L2.length, cd := c2 } := ⟨hYr, VQ.out.ls, VQ.out.ld⟩
          have hYrs : Yr.size = 43 := VR.size
          have hYro : allOne Yr = true := VR.one
          have hYre : Yr.extract 0 43 = Yr := VR.x0
          have HVR := hide VR
          have zrX := (HK.out WX BBX.out).1
          have HBWX := hide (HK.out WX BBX.out).2.1
          rw [← hWX]
          clear hWX hYr VR c42' f42' c42 hAY
          go_wp2_with fail
          have hrow := setRow_heap WX w.heap.size Z Yr _ _ zrX
          refine bodyPost_ret (results_cell_tmp (fn := Try.f31) Try.results31 _ _ w.heap.size 58 Yr (0, 0) _ rfl hrow Try.underlying58 rfl (by rw [hYrs]; exact info_rip)) rfl ?_
          have hzw : w.heap.size < z := by have := F.out.2.2; have := hWs.out; omega
          have gX := setRow_grown WX w.heap.size Yr
          refine ⟨_, by rw [hE.out]; rfl, below_setRow HBWX.out (Nat.le_refl _) _, fun h0 => absurd hE.out h0, fun _ => ⟨A2, c2, ?_, ?_⟩⟩
          · have e : p6H l A2 c2 = { mIp true true (p6 : Int) (p7 : Int) (T : Int) (Lb : Int) sS sD with ad := A2, nd := L2.length, cd := c2 } := by
              unfold p6H mIp
              rw [HTL.out.1, HTL.out.2, ← HPP.out.1, ← HPP.out.2.1, ← HPP.out.2.2.1, ← HPP.out.2.2.2, HL2.out.2, HN.out.1]
            rw [e]
            exact HVR.out
          · have e := (TKX2.out.grown gX (fun j e => by cases e; exact .inl (Nat.le_of_lt hzw))).gave (w := w) (Nat.le_of_lt hzw)
            rw [HL2.out.1] at e
            exact e))
end Go.Proofs.Ytdlilokmfekndaa

end
section
/-
  The walk of the document's own Parse of whatever bytes.
-/
namespace Go.Proofs.Ytdlilokmfekndaa
open Go.RowKit
attribute [local go_sem ↓] exec_span exec_put exec_build heap_alloc_new heap_old
attribute [local go_sem] spanQ_ptr spanC_some heap_of_drew heap_of_drewN rs_arr rs_ad rs_ip rs_rip putAt_ptr putOk_ptr oldOk_some World.setRow_alloc_new
set_option maxRecDepth 100000
set_option linter.unusedVariables false
set_option linter.unusedSimpArgs false

set_option maxHeartbeats 4000000 in
theorem refparseH_any (w : World) (B : Nat) (A : Option Addr) (l : List UInt8) (c : Nat) (hlc : l.length ≤ c) (hn : l.length ≤ 140737488355328) (hb : Byt w B A l) (hB : B ≤ w.heap.size) :
    Calls Try.prog 15 #[.slice A l.length c] w fun e w' => PkA w l e w' := by
  obtain ⟨Z, hZ⟩ : ∃ Z, Z = (ipL (nIp 0 0 0 0 false)).toArray := ⟨_, rfl⟩
  have hbl0 := built_noneRI
  have hr1 : (w.alloc (.cells (ipL (nIp 0 0 0 0 false)).toArray 58)).heap[w.heap.size]? = some (.cells Z 58 (0, 0)) := by rw [hZ]; exact heap_alloc_new w _
  have hz1 : w.heap.size < (w.alloc (.cells (ipL (nIp 0 0 0 0 false)).toArray 58)).heap.size := by simp
  have hb1' : Below w.heap.size w (w.alloc (.cells (ipL (nIp 0 0 0 0 false)).toArray 58)) := (Below.refl _ _).alloc (Nat.le_refl _) _
  have hb1 : Byt (w.alloc (.cells (ipL (nIp 0 0 0 0 false)).toArray 58)) B A l := hb.keep fun p hp => hb1'.cell (by omega)
  have hB1 : B ≤ (w.alloc (.cells (ipL (nIp 0 0 0 0 false)).toArray 58)).heap.size := by simp; omega
  rw [← hZ] at hbl0
  have hZs : Z.size = 43 := by rw [hZ]; exact (nIp_ok 0 0 0 0 false).size
  have hZo : allOne Z = true := by rw [hZ]; exact (nIp_ok 0 0 0 0 false).one
  have HZ := hide hZ
  have Hz1 := hide hz1
  clear hZ hz1
  by_cases hnil : l.length = 0
  · have HE : Hid (pkE l = 10) := hide (by unfold pkE; rw [if_pos hnil])
    have HB1 := hide hb1'
    rw [hnil]
    clear hnil hb hb1' hb1 hB1 hlc hn
    go_enter Try.func15, Try.ntmps15
    generalize hW1 : w.alloc (.cells (ipL (nIp 0 0 0 0 false)).toArray 58) = W1 at HB1 hr1 Hz1
    have HW : Hid (w.alloc (.cells (ipL (nIp 0 0 0 0 false)).toArray 58) = W1) := hide hW1
    clear hW1
    go_upto_region 1 with (fail)
    change Code.wp _ _ _ _ (w.alloc (.cells (ipL (nIp 0 0 0 0 false)).toArray 58))
    rw [HW.out]
    go_wp2
    have hrow := setRow_heap W1 w.heap.size Z Z _ _ hr1
    refine bodyPost_ret (results_cell_tmp (fn := Try.f15) Try.results15 _ _ w.heap.size 58 Z (0, 0) _ rfl hrow Try.underlying58 rfl (by rw [hZs]; exact info_rip)) rfl ?_
    exact ⟨Z, by rw [HE.out]; rfl, below_setRow HB1.out (Nat.le_refl _) _, fun _ => HZ.out, fun h => by rw [HE.out] at h; cases h⟩
  · obtain ⟨x, hx⟩ : ∃ x, x = l.getD 0 0 := ⟨_, rfl⟩
    have hx255 : x.toNat ≤ 255 := by have := x.toNat_lt; omega
    obtain ⟨bb, off, hA, hbB, hcell⟩ := hb (by omega)
    have hcx : (w.alloc (.cells (ipL (nIp 0 0 0 0 false)).toArray 58)).cell? ⟨bb, off, none⟩ = some (.int .u8 (x.toNat : Int)) := by
      have h1 := hcell 0 (by omega)
      rw [Nat.add_zero] at h1
      rw [hb1'.cell (show bb < w.heap.size by omega), h1, hx]
      congr 3
      rw [List.getD_eq_getElem?_getD, List.getElem?_eq_getElem (show 0 < l.length by omega)]; rfl
    have hlp : (0 : Int) < (l.length : Int) := by omega
    have hl0 : ((l.length : Int) == 0) = false := by
      have h0 : ¬ ((l.length : Int) = 0) := by omega
      exact beq_false_of_ne h0
    have HB1 := hide hb1'
    have HX := hide hx
    clear hb1' hcell
    subst hA
    go_enter Try.func15, Try.ntmps15
    generalize hW1 : w.alloc (.cells (ipL (nIp 0 0 0 0 false)).toArray 58) = W1 at HB1 hr1 Hz1 hb1 hB1 hcx
    have HW : Hid (w.alloc (.cells (ipL (nIp 0 0 0 0 false)).toArray 58) = W1) := hide hW1
    clear hW1
    go_upto_region 1 with (fail)
    change Code.wp _ _ _ _ (w.alloc (.cells (ipL (nIp 0 0 0 0 false)).toArray 58))
    rw [HW.out]
    obtain ⟨v, hv⟩ : ∃ v, v = x.toNat / 16 := ⟨_, rfl⟩
    have hvx : (x.toNat : Int) / 16 = (v : Int) := by omega
    have hv16 : v < 16 := by omega
    have HV : Hid ((l.getD 0 0).toNat / 16 = v) := hide (by rw [← HX.out, hv])
    clear hv hx
    by_cases h4 : v = 4
    · subst h4
      go_wp2_with fail
      refine (reffour_any W1 B _ c l hlc hn hb1 hB1).mono ?_
      rintro e w2 ⟨X, rfl, hb2, hx0, hx1⟩
      have hr2 : w2.heap[w.heap.size]? = some (.cells Z 58 (0, 0)) := (hb2.block _ Hz1.out).trans hr1
      have hX : X.size = 43 ∧ allOne X = true := by
        by_cases h0 : p4E l = 0
        · obtain ⟨ao, co, ad, cd, hv, -⟩ := hx1 h0
          exact ⟨hv.size, hv.one⟩
        · rw [hx0 h0]; exact ⟨(nIp_ok 0 0 0 0 false).size, (nIp_ok 0 0 0 0 false).one⟩
      obtain ⟨hXs, hXo⟩ := hX
      have HB2 := hide hb2
      have HX0 := hide hx0
      have HX1 := hide hx1
      have HE : Hid (pkE l = p4E l) := hide (by unfold pkE; rw [if_neg hnil, if_pos HV.out])
      clear hb2 hx0 hx1
      go_wp2
      have hrow := setRow_heap w2 w.heap.size Z X _ _ hr2
      refine bodyPost_ret (results_cell_tmp (fn := Try.f15) Try.results15 _ _ w.heap.size 58 X (0, 0) _ rfl hrow Try.underlying58 rfl (by rw [hXs]; exact info_rip)) rfl ?_
      have hgs := setRow_grown w2 w.heap.size X
      have hzs : (w2.setRow w.heap.size X).heap.size = w2.heap.size := size_setRow _ _ _
      refine ⟨X, by rw [HE.out]; rfl, below_setRow (HB1.out.trans (HB2.out.mono HB1.out.size)) (Nat.le_refl _) _, fun h => HX0.out (by rw [← HE.out]; exact h), fun h => ?_⟩
      have h0 := HX1.out (by rw [← HE.out]; exact h)
      obtain ⟨ao, co, ad, cd, h1, h2, h3⟩ := h0
      exact .inl ⟨HV.out, HE.out.symm.trans h, ao, co, ad, cd, h1, h2.row Hz1.out X, h3.row Hz1.out X⟩
    · by_cases h6 : v = 6
      · subst h6
        go_wp2_with fail
        refine (refsix_any W1 B _ c l hlc hn hb1 hB1).mono ?_
        rintro e w2 ⟨X, rfl, hb2, hx0, hx1⟩
        have hr2 : w2.heap[w.heap.size]? = some (.cells Z 58 (0, 0)) := (hb2.block _ Hz1.out).trans hr1
        have hX : X.size = 43 ∧ allOne X = true := by
          by_cases h0 : p6E l = 0
          · obtain ⟨ad, cd, hv, -⟩ := hx1 h0
            exact ⟨hv.size, hv.one⟩
          · rw [hx0 h0]; exact ⟨(nIp_ok 0 0 0 0 false).size, (nIp_ok 0 0 0 0 false).one⟩
        obtain ⟨hXs, hXo⟩ := hX
        have HB2 := hide hb2
        have HX0 := hide hx0
        have HX1 := hide hx1
        have HE : Hid (pkE l = p6E l) := hide (by unfold pkE; rw [if_neg hnil, if_neg (by rw [HV.out]; exact h4), if_pos HV.out])
        clear hb2 hx0 hx1
        go_wp2
        have hrow := setRow_heap w2 w.heap.size Z X _ _ hr2
        refine bodyPost_ret (results_cell_tmp (fn := Try.f15) Try.results15 _ _ w.heap.size 58 X (0, 0) _ rfl hrow Try.underlying58 rfl (by rw [hXs]; exact info_rip)) rfl ?_
        have hgs := setRow_grown w2 w.heap.size X
        have hzs : (w2.setRow w.heap.size X).heap.size = w2.heap.size := size_setRow _ _ _
        refine ⟨X, by rw [HE.out]; rfl, below_setRow (HB1.out.trans (HB2.out.mono HB1.out.size)) (Nat.le_refl _) _, fun h => HX0.out (by rw [← HE.out]; exact h), fun h => ?_⟩
        have h0 := HX1.out (by rw [← HE.out]; exact h)
        obtain ⟨ad, cd, h1, h2⟩ := h0
        exact .inr ⟨HV.out, HE.out.symm.trans h, ad, cd, h1, h2.row Hz1.out X⟩
      · have HE : Hid (pkE l = 13) := hide (by unfold pkE; rw [if_neg hnil, if_neg (by rw [HV.out]; exact h4), if_neg (by rw [HV.out]; exact h6)])
        have hv4 : ((v : Int) == 4) = false := by simp; omega
        have hv6 : ((v : Int) == 6) = false := by simp; omega
        go_wp2
        have hrow := setRow_heap W1 w.heap.size Z Z _ _ hr1
        refine bodyPost_ret (results_cell_tmp (fn := Try.f15) Try.results15 _ _ w.heap.size 58 Z (0, 0) _ rfl hrow Try.underlying58 rfl (by rw [hZs]; exact info_rip)) rfl ?_
        exact ⟨Z, by rw [HE.out]; rfl, below_setRow HB1.out (Nat.le_refl _) _, fun _ => HZ.out, fun h => by rw [HE.out] at h; cases h⟩
end Go.Proofs.Ytdlilokmfekndaa

end
