/-
  The walks of given and taken: a packet as the other side has it.
-/
import Derived.Test.YtnhcfmmmghghgaaJa
import Derived.Deep.RegionHeld3
namespace Go.Proofs.Ytnhcfmmmghghgaa
open Go.RowKit
attribute [local go_sem ↓] exec_span exec_put exec_build heap_alloc_new heap_old
attribute [local go_sem] spanQ_ptr spanC_some heap_of_drew heap_of_drewN rs_arr rs_ad rs_ip rs_rip putAt_ptr putOk_ptr oldOk_some World.setRow_alloc_new
set_option maxRecDepth 100000
set_option linter.unusedVariables false
set_option linter.unusedSimpArgs false

theorem built_hA (v sv dv df : Bool) (p ttl tos id lab : Int) (ao ad : Option Addr) (no co nd cd : Nat) (b0 b1 b2 b3 b4 b5 b6 b7 b8 b9 b10 b11 b12 b13 b14 b15 c0 c1 c2 c3 c4 c5 c6 c7 c8 c9 c10 c11 c12 c13 c14 c15 : UInt8) :
    Try.prog.built 28 [(0, .bool v), (1, .agg (adL sv [b0, b1, b2, b3, b4, b5, b6, b7, b8, b9, b10, b11, b12, b13, b14, b15]).toArray), (2, .agg (adL dv [c0, c1, c2, c3, c4, c5, c6, c7, c8, c9, c10, c11, c12, c13, c14, c15]).toArray), (3, .int .i64 p), (4, .int .i64 ttl), (5, .int .i64 tos), (6, .int .i64 id), (7, .bool df), (8, .int .i64 lab), (9, .slice ao no co), (10, .slice ad nd cd)] = some (ipL ⟨v, sv, [b0, b1, b2, b3, b4, b5, b6, b7, b8, b9, b10, b11, b12, b13, b14, b15], dv, [c0, c1, c2, c3, c4, c5, c6, c7, c8, c9, c10, c11, c12, c13, c14, c15], p, ttl, tos, id, df, lab, ao, no, co, ad, nd, cd⟩).toArray := by kernel_rfl
theorem built_rA (v sv dv df : Bool) (p ttl tos id lab : Int) (ao ad : Option Addr) (no co nd cd : Nat) (b0 b1 b2 b3 b4 b5 b6 b7 b8 b9 b10 b11 b12 b13 b14 b15 c0 c1 c2 c3 c4 c5 c6 c7 c8 c9 c10 c11 c12 c13 c14 c15 : UInt8) :
    Try.prog.built 27 [(0, .bool v), (1, .agg (adL sv [b0, b1, b2, b3, b4, b5, b6, b7, b8, b9, b10, b11, b12, b13, b14, b15]).toArray), (2, .agg (adL dv [c0, c1, c2, c3, c4, c5, c6, c7, c8, c9, c10, c11, c12, c13, c14, c15]).toArray), (3, .int .i64 p), (4, .int .i64 ttl), (5, .int .i64 tos), (6, .int .i64 id), (7, .bool df), (8, .int .i64 lab), (9, .slice ao no co), (10, .slice ad nd cd)] = some (ipL ⟨v, sv, [b0, b1, b2, b3, b4, b5, b6, b7, b8, b9, b10, b11, b12, b13, b14, b15], dv, [c0, c1, c2, c3, c4, c5, c6, c7, c8, c9, c10, c11, c12, c13, c14, c15], p, ttl, tos, id, df, lab, ao, no, co, ad, nd, cd⟩).toArray := by kernel_rfl
/-- the parts that a packet is made of. -/
def ipP (h : Ip) : List (Nat × Value) := [(0, .bool h.v), (1, .agg (adL h.sv h.sb).toArray), (2, .agg (adL h.dv h.db).toArray), (3, .int .i64 h.p), (4, .int .i64 h.ttl), (5, .int .i64 h.tos), (6, .int .i64 h.id), (7, .bool h.df), (8, .int .i64 h.lab), (9, .slice h.ao h.no h.co), (10, .slice h.ad h.nd h.cd)]
theorem built_h (h : Ip) (ls : h.sb.length = 16) (ld : h.db.length = 16) : Try.prog.built 28 (ipP h) = some (ipL h).toArray := by
  obtain ⟨v, sv, sb, dv, db, p, ttl, tos, id, df, lab, ao, no, co, ad, nd, cd⟩ := h
  match sb, db, ls, ld with
  | [_, _, _, _, _, _, _, _, _, _, _, _, _, _, _, _], [_, _, _, _, _, _, _, _, _, _, _, _, _, _, _, _], _, _ => exact built_hA _ _ _ _ _ _ _ _ _ _ _ _ _ _ _ _ _ _ _ _ _ _ _ _ _ _ _ _ _ _ _ _ _ _ _ _ _ _ _ _ _ _ _ _ _ _ _
theorem built_r (h : Ip) (ls : h.sb.length = 16) (ld : h.db.length = 16) : Try.prog.built 27 (ipP h) = some (ipL h).toArray := by
  obtain ⟨v, sv, sb, dv, db, p, ttl, tos, id, df, lab, ao, no, co, ad, nd, cd⟩ := h
  match sb, db, ls, ld with
  | [_, _, _, _, _, _, _, _, _, _, _, _, _, _, _, _], [_, _, _, _, _, _, _, _, _, _, _, _, _, _, _, _], _, _ => exact built_rA _ _ _ _ _ _ _ _ _ _ _ _ _ _ _ _ _ _ _ _ _ _ _ _ _ _ _ _ _ _ _ _ _ _ _ _ _ _ _ _ _ _ _ _ _ _ _
theorem info_rip : (Try.prog.info? 27).map (·.size) = some 43 := by kernel_rfl
theorem two_packs (w : World) (X Z : Array Value) (t u : TypeId) (W : World) (hW : (w.alloc (.cells X t)).alloc (.cells Z u) = W) : W.heap[w.heap.size]? = some (.cells X t (0, 0)) ∧ W.heap[w.heap.size + 1]? = some (.cells Z u (0, 0)) ∧ W.heap.size = w.heap.size + 2 ∧ Below w.heap.size w W := by
  subst hW
  refine ⟨(Below.heap_alloc _ _ _ (by simp)).trans (heap_alloc_new w _), ?_, by simp, ((Below.refl _ _).alloc (Nat.le_refl _) _).alloc (by simp) _⟩
  have h := heap_alloc_new (w.alloc (.cells X t)) (.cells Z u)
  rwa [show (w.alloc (.cells X t)).heap.size = w.heap.size + 1 by simp] at h
/-- what a walk asks of a packet's block, its addresses too. -/
def IpS (w : World) (g : Nat) (h : Ip) (X : Array Value) (t : TypeId) : Prop := w.heap[g]? = some (.cells X t (0, 0)) ∧ IpC w g h

set_option maxHeartbeats 4000000 in
theorem taken_any (w : World) (X : Array Value) (h : Ip) (x : IpV X h) :
    Calls Try.prog 11 #[.agg X] w fun e w' => e = .returned (.agg X) ∧ Below w.heap.size w w' := by
  have hxs := x.size
  have hxo := x.one
  have hsrc := x.src
  have hdst := x.dst
  have hbl := built_r h x.ls x.ld
  rw [← x.eq] at hbl
  unfold ipP at hbl
  obtain ⟨W, hW⟩ : ∃ W, (w.alloc (.cells X 28)).alloc (.cells (ipL (nIp 0 0 0 0 false)).toArray 27) = W := ⟨_, rfl⟩
  obtain ⟨h1, h2, hz, hb⟩ := two_packs w X _ _ _ W hW
  obtain ⟨c0, c1, c18, c35, c36, c37, c38, c39, c40, c41, c42⟩ := x.cells h1
  have HZ := hide hz
  have HB := hide hb
  have HW := hide hW
  have hZs : (ipL (nIp 0 0 0 0 false)).toArray.size = 43 := (nIp_ok 0 0 0 0 false).size
  obtain ⟨Z, hZ⟩ : ∃ Z, Z = (ipL (nIp 0 0 0 0 false)).toArray := ⟨_, rfl⟩
  rw [← hZ] at h2 hZs
  clear hz hb hW hZ
  go_enter Try.func11, Try.ntmps11
  go_upto_region 1 with (fail)
  change Code.wp _ _ _ _ ((w.alloc (.cells X 28)).alloc (.cells (ipL (nIp 0 0 0 0 false)).toArray 27))
  rw [HW.out]
  go_wp2
  have hrow := setRow_heap W (w.heap.size + 1) Z X _ _ h2
  refine bodyPost_ret (results_cell_row (fn := Try.f11) Try.results11 _ _ (w.heap.size + 1) 27 X (0, 0) _ rfl hrow Try.underlying27 rfl (by rw [hxs]; exact info_rip)) rfl ?_
  exact ⟨rfl, below_setRow HB.out (by omega) _⟩
/-- the packet as the program has it: its lists in new memory, marks behind them. -/
def givH (h : Ip) (g1 g2 : Nat) : Ip := { h with ao := some ⟨g1, 0, none⟩, co := h.no + 8, ad := some ⟨g2, 0, none⟩, cd := h.nd + 8 }
def Given (w : World) (h : Ip) (O D : List UInt8) (e : Ending) (w' : World) : Prop := ∃ g1 g2, e = .returned (.agg (ipL (givH h g1 g2)).toArray) ∧ Lentd w' g1 O ∧ Lentd w' g2 D ∧ w.heap.size ≤ g1 ∧ w.heap.size ≤ g2 ∧ Below w.heap.size w w'
set_option maxHeartbeats 4000000 in
theorem given_any (w : World) (X : Array Value) (h : Ip) (x : IpV X h) (O D : List UInt8) (hO : Byt w w.heap.size h.ao O) (hOl : O.length = h.no) (hD : Byt w w.heap.size h.ad D) (hDl : D.length = h.nd) (hno : h.no ≤ h.co) (hnd : h.nd ≤ h.cd) (hn : h.no ≤ 140737488355320) (hn2 : h.nd ≤ 140737488355320) :
    Calls Try.prog 7 #[.agg X] w fun e w' => Given w h O D e w' := by
  have hxs := x.size
  have hxo := x.one
  have hsrc := x.src
  have hdst := x.dst
  obtain ⟨W, hW⟩ : ∃ W, (w.alloc (.cells X 27)).alloc (.cells (ipL (nIp 0 0 0 0 false)).toArray 28) = W := ⟨_, rfl⟩
  obtain ⟨h1, h2, hz, hb⟩ := two_packs w X _ _ _ W hW
  have HX := hide x
  have HZ := hide hz
  have HB := hide hb
  have HW := hide hW
  have hZs : (ipL (nIp 0 0 0 0 false)).toArray.size = 43 := (nIp_ok 0 0 0 0 false).size
  obtain ⟨Z, hZ⟩ : ∃ Z, Z = (ipL (nIp 0 0 0 0 false)).toArray := ⟨_, rfl⟩
  rw [← hZ] at h2 hZs
  have HH1 := hide h1
  have HH2 := hide h2
  have KO := hide (fun (W1 : World) (hb1 : Below w.heap.size w W1) => lent_any h.ao h.co O w.heap.size W1 (by omega) (by omega) (hO.below hb1) hb1.size)
  have KD := hide (fun (W1 : World) (hb1 : Below w.heap.size w W1) => lent_any h.ad h.cd D w.heap.size W1 (by omega) (by omega) (hD.below hb1) hb1.size)
  rw [hOl] at KO
  rw [hDl] at KD
  obtain ⟨Y, hY⟩ : ∃ Y : Nat → Nat → Array Value, ∀ a b, Y a b = (ipL (givH h a b)).toArray := ⟨_, fun _ _ => rfl⟩
  have hbl : ∀ g1 g2, Try.prog.built 28 (ipP (givH h g1 g2)) = some (Y g1 g2) := fun g1 g2 => by rw [hY]; exact built_h _ x.ls x.ld
  have hYs : ∀ a b, (Y a b).size = 43 := fun a b => by rw [hY]; exact IpV.size (h := givH h a b) ⟨rfl, x.ls, x.ld⟩
  have hYo : ∀ a b, allOne (Y a b) = true := fun a b => by rw [hY]; exact IpV.one (h := givH h a b) ⟨rfl, x.ls, x.ld⟩
  have HY := hide hY
  clear hY
  unfold ipP givH at hbl
  simp only [] at hbl
  have hkeep : ∀ W1 : World, Below W.heap.size W W1 → W1.heap[w.heap.size]? = some (.cells X 27 (0, 0)) ∧ IpC W1 w.heap.size h := fun W1 hb1 => by
    have hh := (hb1.block w.heap.size (by omega)).trans h1
    exact ⟨hh, x.cells hh⟩
  have HK := hide hkeep
  have HS2 : Hid (∀ W1 : World, W1.heap[w.heap.size]? = some (.cells X 27 (0, 0)) → W1.heap[w.heap.size]? = some (.cells X 27 (0, 0)) ∧ W1.cell? ⟨w.heap.size, 0, none⟩ = some (.bool h.v) ∧ W1.cell? ⟨w.heap.size, 35, none⟩ = some (.int .i64 h.p) ∧ W1.cell? ⟨w.heap.size, 36, none⟩ = some (.int .i64 h.ttl) ∧ W1.cell? ⟨w.heap.size, 37, none⟩ = some (.int .i64 h.tos) ∧ W1.cell? ⟨w.heap.size, 38, none⟩ = some (.int .i64 h.id) ∧ W1.cell? ⟨w.heap.size, 39, none⟩ = some (.bool h.df) ∧ W1.cell? ⟨w.heap.size, 40, none⟩ = some (.int .i64 h.lab) ∧ W1.cell? ⟨w.heap.size, 41, none⟩ = some (.slice h.ao h.no h.co) ∧ W1.cell? ⟨w.heap.size, 42, none⟩ = some (.slice h.ad h.nd h.cd)) := hide (fun W1 hh => by obtain ⟨c0, c1, c18, c35, c36, c37, c38, c39, c40, c41, c42⟩ := x.cells hh; exact ⟨hh, c0, c35, c36, c37, c38, c39, c40, c41, c42⟩)
  have c := x.cells h1
  clear hz hb hW hZ hkeep hO hD hOl hDl x
  go_enter Try.func7, Try.ntmps7
  go_upto_region 1 with (fail)
  change Code.wp _ _ _ _ ((w.alloc (.cells X 27)).alloc (.cells (ipL (nIp 0 0 0 0 false)).toArray 28))
  rw [HW.out]
  obtain ⟨c0, c1, c18, c35, c36, c37, c38, c39, c40, c41, c42⟩ := c
  go_region_held3 (fun w' => w'.heap[w.heap.size]? = some (.cells X 27 (0, 0)) ∧ w'.cell? ⟨w.heap.size, 0, none⟩ = some (.bool h.v) ∧ w'.cell? ⟨w.heap.size, 35, none⟩ = some (.int .i64 h.p) ∧ w'.cell? ⟨w.heap.size, 36, none⟩ = some (.int .i64 h.ttl) ∧ w'.cell? ⟨w.heap.size, 37, none⟩ = some (.int .i64 h.tos) ∧ w'.cell? ⟨w.heap.size, 38, none⟩ = some (.int .i64 h.id) ∧ w'.cell? ⟨w.heap.size, 39, none⟩ = some (.bool h.df) ∧ w'.cell? ⟨w.heap.size, 40, none⟩ = some (.int .i64 h.lab) ∧ w'.cell? ⟨w.heap.size, 41, none⟩ = some (.slice h.ao h.no h.co) ∧ w'.cell? ⟨w.heap.size, 42, none⟩ = some (.slice h.ad h.nd h.cd))
    (first
      | exact ⟨HH1.out, c0, c35, c36, c37, c38, c39, c40, c41, c42⟩
      | exact ⟨r4, d0, d35, d36, d37, d38, d39, d40, d41, d42⟩
      | exact HS2.out _ ((setRow_other _ _ _ _ (by simp)).trans r5)
      | exact ⟨r5, e0, e35, e36, e37, e38, e39, e40, e41, e42⟩
      | fail)
    (first
      | (go_at_call 21; (with_reducible refine (KO.out W.drew HB.out.drew).mono ?_); rintro e w4 ⟨rfl, L4, b4⟩; have B4 : Hid (Below W.heap.size W w4) := hide (below_undrew' b4); have HL4 := hide L4; obtain ⟨r4, d0, d1, d18, d35, d36, d37, d38, d39, d40, d41, d42⟩ := HK.out w4 B4.out; clear L4 b4)
      | (go_at_call 21; (with_reducible refine (KD.out w4 (HB.out.trans (B4.out.mono (by have := HZ.out; omega)))).mono ?_); rintro e w5 ⟨rfl, L5, b5⟩; have B5 : Hid (Below W.heap.size W w5) := hide (B4.out.trans (b5.mono B4.out.size)); have HL5 := hide L5; have HB5 := hide b5; obtain ⟨r5, e0, e1, e18, e35, e36, e37, e38, e39, e40, e41, e42⟩ := HK.out w5 B5.out; have z5 : w5.heap[w.heap.size + 1]? = some (.cells Z 28 (0, 0)) := (B5.out.block (w.heap.size + 1) (by have := HZ.out; omega)).trans HH2.out; clear L5 b5)
      | fail)
  all_goals (
    have hrow := setRow_heap w5 (w.heap.size + 1) Z (Y W.heap.size w4.heap.size) _ _ z5
    have hsz4 : W.heap.size < w4.heap.size := (Array.getElem?_eq_some_iff.1 HL4.out).1
    have hsz5 : w4.heap.size < w5.heap.size := (Array.getElem?_eq_some_iff.1 HL5.out).1
    have hZ2 := HZ.out
    have hfin : Given w h O D (.returned (.agg (Y W.heap.size w4.heap.size))) (w5.setRow (w.heap.size + 1) (Y W.heap.size w4.heap.size)) := by
      refine ⟨W.heap.size, w4.heap.size, by rw [HY.out], ?_, ?_, by omega, by omega, below_setRow (HB.out.trans (B5.out.mono (by omega))) (by omega) _⟩
      · exact (setRow_other _ _ _ _ (by omega)).trans ((HB5.out.block W.heap.size hsz4).trans HL4.out)
      · exact (setRow_other _ _ _ _ (by omega)).trans HL5.out
    have HF := hide hfin
    clear hfin hsz4 hsz5 hZ2
    go_wp2
    refine bodyPost_ret (results_cell_row (fn := Try.f7) Try.results7 _ _ (w.heap.size + 1) 28 (Y W.heap.size w4.heap.size) (0, 0) _ rfl hrow Try.underlying28 rfl (by rw [hYs]; exact info_ip)) rfl ?_
    exact HF.out)
end Go.Proofs.Ytnhcfmmmghghgaa
