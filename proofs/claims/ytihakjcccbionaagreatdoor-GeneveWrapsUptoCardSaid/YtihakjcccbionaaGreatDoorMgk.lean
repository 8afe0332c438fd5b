import Derived.Test.YtihakjcccbionaaGreatDoorMgl
import Derived.Test.YtihakjcccbionaaGreatDoorMrw
import Derived.Test.YtihakjcccbionaaGreatDoorMgv
import Derived.Test.YtihakjcccbionaaGreatDoorRow
import Derived.Test.YtihakjcccbionaaGreatDoorMgn
import Derived.Deep.SlicePairs
section
/-
  The walk of given: a tunnel as the program has it.
-/
namespace Go.Proofs.YtihakjcccbionaaGreatDoor
open Go.RowKit
set_option maxRecDepth 100000
set_option linter.unusedVariables false
set_option linter.unusedSimpArgs false
attribute [local go_sem ↓] exec_span exec_put exec_build heap_alloc_new heap_old
attribute [local go_sem] spanQ_ptr spanC_some heap_of_drew heap_of_drewN putAt_ptr putOk_ptr oldOk_some World.setRow_alloc_new rs_tunG rs_rtunG rs_optG rs_roptG built_tunG built_rtunG built_optG built_roptG


/-- the local tunnel, laid behind what lies within. -/
theorem tl_first {w W1 w4 : World} {T : TuD} {A0 I0 : Option Addr} {c0 k0 m g1 : Nat} {l0 : List OpG} {ou : Bool} {tp tv : Int} {Y0 : Option Addr → Nat → Array Value} {tt te : TypeId} {z0 : Nat} (hY : ∀ I k, Y0 I k = tunA ou tp tv none 0 0 I m k) (hT : ou = T.o ∧ tp = T.p ∧ tv = T.v) (hm : m = T.D.length) (hp : TuP w T A0 c0 l0 I0 k0) (hb : Below w.heap.size w w4) (hL : Lentd w4 W1.heap.size T.D) (hz : z0 = w.heap.size + 1 ∧ W1.heap.size = z0 + 1 ∧ w.heap.size + 1 = g1) (hs : w.heap.size ≤ W1.heap.size) :
    TlI w (w4.alloc (.cells (Y0 (some ⟨W1.heap.size, 0, none⟩) (m + 8)) tt)) w4.heap.size g1 tt te T 0 none 0 (some ⟨W1.heap.size, 0, none⟩) (m + 8) [] := by
  have hlt := hL.lt
  have b1 : Below w4.heap.size w4 (w4.alloc (.cells (Y0 (some ⟨W1.heap.size, 0, none⟩) (m + 8)) tt)) := (Below.refl _ _).alloc (Nat.le_refl _) _
  refine ⟨?_, OgS.nil _ _ _, rfl, fun x hx => by simp at hx, ((hL.byt hlt).below b1).more b1.size, fun hp a e => ⟨by cases e; constructor <;> (dsimp only; omega), by simp [Value.ownBlock]⟩, (fun e => by cases e), by omega, hb.alloc hb.size _, hb.size⟩
  rw [hY, hT.1, hT.2.1, hT.2.2, hm]
  exact heap_alloc_new w4 _
/-- the same, laid ahead of it. -/
theorem tl_second {w W1 w4 : World} {T : TuD} {A0 I0 : Option Addr} {c0 k0 m g1 : Nat} {l0 : List OpG} {ou : Bool} {tp tv : Int} {Y0 : Option Addr → Nat → Array Value} {tt te : TypeId} {Z : Array Value} {z0 : Nat} (hY : ∀ I k, Y0 I k = tunA ou tp tv none 0 0 I m k) (hT : ou = T.o ∧ tp = T.p ∧ tv = T.v) (hm : m = T.D.length) (hp : TuP w T A0 c0 l0 I0 k0) (hb : Below w.heap.size w w4) (hL : Lentd w4 (W1.heap.size + 1) T.D) (hr : w4.heap[W1.heap.size]? = some (.cells Z tt (0, 0))) (hz : z0 = w.heap.size + 1 ∧ W1.heap.size = z0 + 1 ∧ w.heap.size + 1 = g1) (hs : w.heap.size ≤ W1.heap.size) :
    TlI w (w4.setRow W1.heap.size (Y0 (some ⟨W1.heap.size + 1, 0, none⟩) (m + 8))) W1.heap.size g1 tt te T 0 none 0 (some ⟨W1.heap.size + 1, 0, none⟩) (m + 8) [] := by
  have hlt := hL.lt
  have b1 := grown_rowT w4 W1.heap.size (Y0 (some ⟨W1.heap.size + 1, 0, none⟩) (m + 8))
  refine ⟨?_, OgS.nil _ _ _, rfl, fun x hx => by simp at hx, ((hL.byt hlt).grown b1 (fun _ a e => by cases e; simp)).more b1.size, fun hp a e => ⟨by cases e; constructor <;> (dsimp only; omega), by simp [Value.ownBlock]⟩, (fun e => by cases e), by omega, below_setRow hb hs _, hs⟩
  rw [hY, hT.1, hT.2.1, hT.2.2, hm]
  exact setRow_heap w4 _ _ _ _ _ hr
set_option maxHeartbeats 8000000 in
theorem givenG_any (w : World) (X : Array Value) (T : TuD) (h : TuG w X T) (hl : T.l.length ≤ 1048576) (hD : T.D.length ≤ 140737488355320) (hd : ∀ x ∈ T.l, x.2.2.length ≤ 140737488355320) :
    Calls Tryz.prog 6 #[.agg X] w (TunP w T) := by
  obtain ⟨A0, c0, l0, I0, k0, hX, hp⟩ := h
  obtain ⟨i0, hi, hz0, hz1, hz2⟩ := info_parts info_optG
  have hlen := hp.len
  obtain ⟨n, hn⟩ : ∃ n, n = l0.length := ⟨_, rfl⟩
  rw [← hn] at hX hlen
  have HP := hide hp
  have HN := hide hn
  have HLEN := hide hlen
  have hn20 : n ≤ 1048576 := by rw [hlen]; exact hl
  obtain ⟨m, hm⟩ : ∃ m, m = T.D.length := ⟨_, rfl⟩
  rw [← hm] at hX
  have HM := hide hm
  obtain ⟨ou, hto⟩ : ∃ x, x = T.o := ⟨_, rfl⟩
  obtain ⟨tp, htp⟩ : ∃ x, x = T.p := ⟨_, rfl⟩
  obtain ⟨tv, htv⟩ : ∃ x, x = T.v := ⟨_, rfl⟩
  rw [← hto, ← htp, ← htv] at hX
  have HT := hide (And.intro hto (And.intro htp htv))
  have xs : X.size = 5 := by rw [hX]; rfl
  have xo : allOne X = true := by rw [hX]; exact tunA_one _ _ _ _ _ _ _ _ _
  have hcells := fun (W : World) (r : W.heap[w.heap.size]? = some (.cells X 30 (0, 0))) => (by rw [hX] at r; exact tunA_cells r : W.cell? ⟨w.heap.size, 0, none⟩ = some (.bool ou) ∧ W.cell? ⟨w.heap.size, 1, none⟩ = some (.int .i64 tp) ∧ W.cell? ⟨w.heap.size, 2, none⟩ = some (.int .i64 tv) ∧ W.cell? ⟨w.heap.size, 3, none⟩ = some (.slice A0 n c0) ∧ W.cell? ⟨w.heap.size, 4, none⟩ = some (.slice I0 m k0))
  have HC := hide hcells
  have HD := hide hD
  have HDD := hide hd
  obtain ⟨Y0, hY0⟩ : ∃ Y : Option Addr → Nat → Array Value, ∀ I k, Y I k = tunA ou tp tv none 0 0 I m k := ⟨_, fun _ _ => rfl⟩
  have hb0 : ∀ I k, Tryz.prog.built 38 [(0, .bool ou), (1, .int .i64 tp), (2, .int .i64 tv), (4, .slice I m k)] = some (Y0 I k) := fun I k => by rw [hY0]; exact built_tunG ou tp tv I m k
  have HYs : Hid (∀ I k, (Y0 I k).size = 5) := hide (fun I k => by rw [hY0]; rfl)
  have HYo : Hid (∀ I k, allOne (Y0 I k) = true) := hide (fun I k => by rw [hY0]; exact tunA_one _ _ _ _ _ _ _ _ _)
  have HY0 := hide hY0
  clear hp hn hlen hm hto htp htv hX hcells hY0 hl hD hd
  go_enter Tryz.func6, Tryz.ntmps6
  go_upto_region 1 with (fail)
  change Code.wp _ _ _ _ ((w.alloc (.cells X _)).alloc (.cells (tunA false 0 0 none 0 0 none 0 0) 38))
  obtain ⟨W0, hW0, r0, z0, b0⟩ := alloc_tl w (.cells X 30)
  rw [hW0]
  obtain ⟨W1, hW1, r1, z1, b1⟩ := alloc_tl W0 (.cells (tunA false 0 0 none 0 0 none 0 0) 38)
  rw [hW1]
  have r0' := (b1.block w.heap.size (by omega)).trans r0
  obtain ⟨d0, d1, d2, d3, d4⟩ := HC.out W1 r0'
  rw [z0] at r1
  obtain ⟨g1, hg1⟩ : ∃ g, w.heap.size + 1 = g := ⟨_, rfl⟩
  rw [hg1] at r1 ⊢
  have Z0 := hide (And.intro z0 (And.intro z1 hg1))
  have HB1 := hide (b0.trans (b1.mono (by omega)))
  clear hW0 hW1 z0 z1 b0 b1 hg1 r0
  have KL := hide (fun (W : World) (hb : Below w.heap.size w W) => lent_any I0 k0 T.D w.heap.size W HP.out.ik HD.out (HP.out.i.below hb) hb.size)
  rw [← HM.out] at KL
  obtain ⟨gz, hgz⟩ : ∃ g, g = W1.heap.size := ⟨_, rfl⟩
  have HGZ := hide hgz
  have HKX := hide (fun (W : World) (hb : Below W1.heap.size W1 W) => (⟨HC.out W ((hb.block w.heap.size (by have := Z0.out; omega)).trans r0'), (hb.block w.heap.size (by have := Z0.out; omega)).trans r0', (hb.block g1 (by have := Z0.out; omega)).trans r1⟩ : (W.cell? ⟨w.heap.size, 0, none⟩ = some (.bool ou) ∧ W.cell? ⟨w.heap.size, 1, none⟩ = some (.int .i64 tp) ∧ W.cell? ⟨w.heap.size, 2, none⟩ = some (.int .i64 tv) ∧ W.cell? ⟨w.heap.size, 3, none⟩ = some (.slice A0 n c0) ∧ W.cell? ⟨w.heap.size, 4, none⟩ = some (.slice I0 m k0)) ∧ W.heap[w.heap.size]? = some (.cells X 30 (0, 0)) ∧ W.heap[g1]? = some (.cells (tunA false 0 0 none 0 0 none 0 0) 38 (0, 0))))
  have bd1 : Below W1.heap.size W1 W1.drew := (Below.refl _ _).drew
  obtain ⟨⟨e0, e1, e2, e3, e4⟩, -, -⟩ := HKX.out W1.drew bd1
  have HB0 := hide hb0
  clear hgz bd1 r0' r1 d0 d1 d2 d3 d4 hb0
  go_cut [3] from 3 to 14 (fun p wx => ∃ g2 gl, p = .pointer (some ⟨g2, 0, none⟩) ∧ Hid (w.heap.size + 1 < g2) ∧ Hid (TlI w wx g2 g1 38 60 T 0 none 0 (some ⟨gl, 0, none⟩) (m + 8) []) ∧ Hid (wx.heap[w.heap.size]? = some (.cells X 30 (0, 0)) ∧ wx.heap[g1]? = some (.cells (tunA false 0 0 none 0 0 none 0 0) 38 (0, 0))))
  case first =>
    have hbY := fun gl => HB0.out (some ⟨gl, 0, none⟩) (m + 8)
    have hYs := HYs.out
    have hYo := HYo.out
    go_region_held3 (fun w' => w'.cell? ⟨w.heap.size, 0, none⟩ = some (.bool ou) ∧ w'.cell? ⟨w.heap.size, 1, none⟩ = some (.int .i64 tp) ∧ w'.cell? ⟨w.heap.size, 2, none⟩ = some (.int .i64 tv) ∧ w'.cell? ⟨w.heap.size, 4, none⟩ = some (.slice I0 m k0))
      (first
        | exact ⟨e0, e1, e2, e4⟩
        | (obtain ⟨⟨x0, x1, x2, x3, x4⟩, -, -⟩ := HKX.out (W1.drew.alloc _) ((Below.refl W1.heap.size W1).drew.alloc (Nat.le_refl _) _); exact ⟨x0, x1, x2, x4⟩)
        | exact ⟨f0, f1, f2, f4⟩
        | (obtain ⟨⟨x0, x1, x2, x3, x4⟩, -, -⟩ := HKX.out _ ((B4.out).alloc B4.out.size _); exact ⟨x0, x1, x2, x4⟩)
        | (obtain ⟨⟨x0, x1, x2, x3, x4⟩, -, -⟩ := HKX.out _ (below_setRow B4.out (Nat.le_refl _) _); exact ⟨x0, x1, x2, x4⟩)
        | (obtain ⟨⟨x0, x1, x2, x3, x4⟩, -, -⟩ := HKX.out _ (below_setRow (B4.out.alloc B4.out.size _) B4.out.size _); exact ⟨x0, x1, x2, x4⟩)
        | fail)
      (first
        | (go_at_call 18; (with_reducible refine (KL.out W1.drew (HB1.out.drew)).mono ?_); rintro e w4 ⟨rfl, L4, b4⟩
           have B4 : Hid (Below W1.heap.size W1 w4) := hide (below_undrew' b4)
           have HL4 := hide L4
           have rz := True.intro
           obtain ⟨⟨f0, f1, f2, f3, f4⟩, -, -⟩ := HKX.out w4 B4.out
           clear L4 b4)
        | (go_at_call 18; (with_reducible refine (KL.out (W1.alloc _).drew (HB1.out.alloc HB1.out.size _).drew).mono ?_); rintro e w4 ⟨rfl, L4, b4⟩
           have B4 : Hid (Below W1.heap.size W1 w4) := hide ((((Below.refl W1.heap.size W1).alloc (Nat.le_refl _) _).drew).trans (b4.mono (by simp)))
           have HL4 := hide L4
           have rz := (b4.block W1.heap.size (by simp)).trans (heap_alloc_new W1 _)
           obtain ⟨⟨f0, f1, f2, f3, f4⟩, -, -⟩ := HKX.out w4 B4.out
           clear L4 b4)
        | fail)
    all_goals (
      go_wp2_with fail
      go_meet
      have hz1 := Z0.out
      have hzw := B4.out.size
      have hzz : ∀ o, (W1.alloc o).drew.heap.size = W1.heap.size + 1 := fun o => by show (W1.alloc o).heap.size = _; simp
      first
        | exact ⟨w4.heap.size, W1.heap.size, rfl, hide (by omega), hide (tl_first HY0.out HT.out HM.out HP.out (HB1.out.trans (B4.out.mono HB1.out.size)) HL4.out hz1 HB1.out.size), hide (HKX.out _ (B4.out.alloc B4.out.size _)).2⟩
        | exact ⟨W1.heap.size, W1.heap.size + 1, rfl, hide (by omega), hide (tl_second HY0.out HT.out HM.out HP.out (HB1.out.trans (B4.out.mono HB1.out.size)) (hzz _ ▸ HL4.out) rz hz1 HB1.out.size), hide (HKX.out _ (below_setRow B4.out (Nat.le_refl _) _)).2⟩
        | fail)
  case rest =>
    obtain ⟨g2, gl, rfl, HG2L, HS0, HQ⟩ := hcut
    clear e0 e1 e2 e3 e4
    go_wp2
    go_loopw [4] (fun i wr => ∃ (j : Nat) (A : Option Addr) (c : Nat) (l : List OpG), j ≤ n ∧ i = .int .i64 (j : Int) ∧ Hid (TlI w wr g2 g1 38 60 T j A c (some ⟨gl, 0, none⟩) (m + 8) l) ∧ Hid (wr.heap[w.heap.size]? = some (.cells X 30 (0, 0)) ∧ wr.heap[g1]? = some (.cells (tunA false 0 0 none 0 0 none 0 0) 38 (0, 0)))) (fun i _ => n - (intOf i).toNat)
    case atStart => exact ⟨0, none, 0, [], by omega, rfl, HS0, HQ⟩
    case round =>
      obtain ⟨j, A, c, l, hj, rfl, hI, hQ⟩ := hrel
      obtain ⟨d0, d1, d2, d3, d4⟩ := HC.out wr hQ.out.1
      have hll := hI.out.len (by rw [← HLEN.out]; exact hj)
      by_cases hlt : j < n
      · have hjl : j < l0.length := by rw [← HN.out]; exact hlt
        obtain ⟨b, off, rfl, hbB, hc⟩ := HP.out.rd (by omega)
        obtain ⟨e0, e1, e2⟩ := hc j hjl
        have hsay := say_get HP.out.say hjl (by rw [← HLEN.out]; exact hlt)
        have hob := HP.out.ob l0[j] (List.getElem_mem hjl)
        obtain ⟨x, hx⟩ : ∃ x, x = l0[j] := ⟨_, rfl⟩
        rw [← hx] at e0 e1 e2 hsay hob
        obtain ⟨xc, xt, xa, xk, xd⟩ := x
        simp only at e0 e1 e2
        obtain ⟨xn, hxn⟩ : ∃ k, k = xd.length := ⟨_, rfl⟩
        rw [← hxn] at e2
        have HXN := hide hxn
        have f0 : wr.cell? ⟨b, off + j * 3, none⟩ = some (.int .i64 xc) := (hI.out.bel.cell (show (⟨b, off + j * 3, none⟩ : Addr).block < w.heap.size from hbB)).trans e0
        have f1 : wr.cell? ⟨b, off + j * 3 + 1, none⟩ = some (.int .i64 xt) := (hI.out.bel.cell (show (⟨b, off + j * 3 + 1, none⟩ : Addr).block < w.heap.size from hbB)).trans e1
        have f2 : wr.cell? ⟨b, off + j * 3 + 2, none⟩ = some (.slice xa xn xk) := (hI.out.bel.cell (show (⟨b, off + j * 3 + 2, none⟩ : Addr).block < w.heap.size from hbB)).trans e2
        have HSAY := hide hsay
        have HOB := hide hob
        have HXD : Hid (xd.length ≤ 140737488355320) := hide (by have := HDD.out _ (List.getElem_mem (show j < T.l.length by rw [← HLEN.out]; exact hlt)); rw [hsay] at this; exact this)
        have hown := hI.out.og.row
        have hbx := hI.out.box
        rw [hll] at hown hbx
        obtain ⟨y0, y1, y2, y3, y4⟩ := tunA_cells hbx
        have hA : (.slice A j c : Value).ownBlock ≠ some g2 := fun e => by have := (World.ownsRow.lt hown _ e).1; omega
        have HO := hide hown
        have HA := hide hA
        have HBX := hide hbx
        have HQL : Hid (w.heap.size < wr.heap.size) := hide (Array.getElem?_eq_some_iff.1 hQ.out.1).1
        have HBL : Hid (b < wr.heap.size) := hide (Nat.lt_of_lt_of_le hbB hI.out.bel.size)
        have hbB' : b < w.heap.size := hbB
        have HBB := hide hbB'
        have HLL := hide hll
        have HG2 := hide hI.out.lt
        have hj1 : (j : Int) < (n : Int) := by omega
        have hj0 : (0 : Int) ≤ (j : Int) := by omega
        clear hc e0 e1 e2 hsay hob hx hown hbx hA hll hbB hbB' hxn d0 d1 d2 d4 y0 y1 y2 y4 hjl
        have hown0 := HO.out
        have HB0 : Hid (Below wr.heap.size wr wr.drew) := hide (Below.refl _ _).drew
        have HM1 : Hid (j + 1 ≤ maxLen) := hide (by unfold maxLen; omega)
        have HM2 : Hid ((j + 1) * 40 ≤ 140737488355328) := hide (by omega)
        have HKP := hide (fun (W : World) (hb : Below wr.heap.size wr W) => (⟨(hb.cell (show (⟨w.heap.size, 3, none⟩ : Addr).block < wr.heap.size from HQL.out)).trans d3, (hb.cell (show (⟨b, off + j * 3, none⟩ : Addr).block < wr.heap.size from HBL.out)).trans f0, (hb.cell (show (⟨b, off + j * 3 + 1, none⟩ : Addr).block < wr.heap.size from HBL.out)).trans f1, (hb.cell (show (⟨b, off + j * 3 + 2, none⟩ : Addr).block < wr.heap.size from HBL.out)).trans f2, (hb.cell (show (⟨g2, 3, none⟩ : Addr).block < wr.heap.size from HG2.out)).trans y3⟩ : W.cell? ⟨w.heap.size, 3, none⟩ = some (.slice (some ⟨b, off, none⟩) n c0) ∧ W.cell? ⟨b, off + j * 3, none⟩ = some (.int .i64 xc) ∧ W.cell? ⟨b, off + j * 3 + 1, none⟩ = some (.int .i64 xt) ∧ W.cell? ⟨b, off + j * 3 + 2, none⟩ = some (.slice xa xn xk) ∧ W.cell? ⟨g2, 3, none⟩ = some (.slice A j c)))
        have HKG := hide (fun (W0 W : World) (hb0 : Below wr.heap.size wr W0) (hg : W0.grownBy W (Value.slice A j c).ownBlock) => (by
          obtain ⟨k0', k1', k2', k3', k4'⟩ := HKP.out _ hb0
          have hlo := hI.out.lo
          have hbb := HBB.out
          have hne : ∀ i, i ≤ g2 → some i ≠ (Value.slice A j c).ownBlock := fun i hi e => by have := (World.ownsRow.lt hown0 i e.symm).1; omega
          exact ⟨hg.cell k0' (hne _ (by show w.heap.size ≤ g2; omega)), hg.cell k1' (hne _ (by show b ≤ g2; omega)), hg.cell k2' (hne _ (by show b ≤ g2; omega)), hg.cell k3' (hne _ (by show b ≤ g2; omega)), hg.cell k4' (hne _ (Nat.le_refl _))⟩ : W.cell? ⟨w.heap.size, 3, none⟩ = some (.slice (some ⟨b, off, none⟩) n c0) ∧ W.cell? ⟨b, off + j * 3, none⟩ = some (.int .i64 xc) ∧ W.cell? ⟨b, off + j * 3 + 1, none⟩ = some (.int .i64 xt) ∧ W.cell? ⟨b, off + j * 3 + 2, none⟩ = some (.slice xa xn xk) ∧ W.cell? ⟨g2, 3, none⟩ = some (.slice A j c)))
        have HBW : Hid (Below w.heap.size w wr) := hide hI.out.bel
        have KD := hide (fun (W : World) (hb : Below w.heap.size w W) => lent_any xa xk xd w.heap.size W HOB.out.2.2 HXD.out (HOB.out.1.below hb) hb.size)
        rw [← HXN.out] at KD
        clear hown0 y3 f0 f1 f2
        go_wp2_with fail
        refine wp_region_upZ (S := (fun w' => w'.cell? ⟨w.heap.size, 3, none⟩ = some (.slice (some ⟨b, off, none⟩) n c0) ∧ w'.cell? ⟨b, off + j * 3, none⟩ = some (.int .i64 xc) ∧ w'.cell? ⟨b, off + j * 3 + 1, none⟩ = some (.int .i64 xt) ∧ w'.cell? ⟨b, off + j * 3 + 2, none⟩ = some (.slice xa xn xk) ∧ w'.cell? ⟨g2, 3, none⟩ = some (.slice A j c))) 25 (by kernel_rfl) (HKP.out _ HB0.out) (fun hHeld => ?_)
        refine upZ_take (i := 0) (oi := ⟨some 22, _, _, _, _, _⟩) (v := ?_) rfl (by kernel_rfl) (by kernel_rfl) (by kernel_rfl) (by kernel_rfl) (fun _ _ _ h => h) (Or.inl ⟨by rfl, ?_⟩) hHeld ?_
        rotate_left
        · (intro w' hSw; (try dsimp only at hSw); go_split_ands; go_simp; try with_reducible rfl)
        (try simp only [Act.put, List.setIfInBounds_toArray, List.set_cons_zero, List.set_cons_succ])
        refine upZ_take (i := 1) (oi := ⟨some 23, _, _, _, _, _⟩) (v := ?_) rfl (by kernel_rfl) (by kernel_rfl) (by kernel_rfl) (by kernel_rfl) (fun _ _ _ h => h) (Or.inl ⟨by rfl, ?_⟩) hHeld ?_
        rotate_left
        · (intro w' hSw; (try dsimp only at hSw); go_split_ands; go_simp; try with_reducible rfl)
        (try simp only [Act.put, List.setIfInBounds_toArray, List.set_cons_zero, List.set_cons_succ])
        refine upZ_take (i := 2) (oi := ⟨some 24, _, _, _, _, _⟩) (v := ?_) rfl (by kernel_rfl) (by kernel_rfl) (by kernel_rfl) (by kernel_rfl) (fun _ _ _ h => h) (Or.inl ⟨by rfl, ?_⟩) hHeld ?_
        rotate_left
        · (intro w' hSw; (try dsimp only at hSw); go_split_ands; go_simp; try with_reducible rfl)
        (try simp only [Act.put, List.setIfInBounds_toArray, List.set_cons_zero, List.set_cons_succ])
        refine upZ_take (i := 3) (oi := ⟨some 25, _, _, _, _, _⟩) (v := ?_) rfl (by kernel_rfl) (by kernel_rfl) (by kernel_rfl) (by kernel_rfl) (fun _ _ _ h => h) (Or.inl ⟨by rfl, ?_⟩) hHeld ?_
        rotate_left
        · (intro w' hSw; (try dsimp only at hSw); go_split_ands; go_simp; try with_reducible rfl)
        (try simp only [Act.put, List.setIfInBounds_toArray, List.set_cons_zero, List.set_cons_succ])
        refine upZ_take (i := 4) (oi := ⟨some 26, _, _, _, _, _⟩) (v := ?_) rfl (by kernel_rfl) (by kernel_rfl) (by kernel_rfl) (by kernel_rfl) (fun _ _ _ h => h) (Or.inl ⟨by rfl, ?_⟩) hHeld ?_
        rotate_left
        · (intro w' hSw; (try dsimp only at hSw); go_split_ands; go_simp; try with_reducible rfl)
        (try simp only [Act.put, List.setIfInBounds_toArray, List.set_cons_zero, List.set_cons_succ])
        refine upZ_take (i := 5) (oi := ⟨some 27, _, _, _, _, _⟩) (v := ?_) rfl (by kernel_rfl) (by kernel_rfl) (by kernel_rfl) (by kernel_rfl) (fun _ _ _ h => h) (Or.inl ⟨by rfl, ?_⟩) hHeld ?_
        rotate_left
        · (intro w' hSw; (try dsimp only at hSw); go_split_ands; go_simp; try with_reducible rfl)
        (try simp only [Act.put, List.setIfInBounds_toArray, List.set_cons_zero, List.set_cons_succ])
        refine upZ_take (i := 6) (oi := ⟨some 28, _, _, _, _, _⟩) (v := ?_) rfl (by kernel_rfl) (by kernel_rfl) (by kernel_rfl) (by kernel_rfl) (fun _ _ _ h => h) (Or.inl ⟨by rfl, ?_⟩) hHeld ?_
        rotate_left
        · (intro w' hSw; (try dsimp only at hSw); go_split_ands; go_simp; try with_reducible rfl)
        (try simp only [Act.put, List.setIfInBounds_toArray, List.set_cons_zero, List.set_cons_succ])
        refine upZ_take (i := 7) (oi := ⟨some 29, _, _, _, _, _⟩) (v := ?_) rfl (by kernel_rfl) (by kernel_rfl) (by kernel_rfl) (by kernel_rfl) (fun _ _ _ h => h) (Or.inl ⟨by rfl, ?_⟩) hHeld ?_
        rotate_left
        · (intro w' hSw; (try dsimp only at hSw); go_split_ands; go_simp; try with_reducible rfl)
        (try simp only [Act.put, List.setIfInBounds_toArray, List.set_cons_zero, List.set_cons_succ])
        refine upZ_take (i := 8) (oi := ⟨some 30, _, _, _, _, _⟩) (v := ?_) rfl (by kernel_rfl) (by kernel_rfl) (by kernel_rfl) (by kernel_rfl) (fun _ _ _ h => h) (Or.inl ⟨by rfl, ?_⟩) hHeld ?_
        rotate_left
        · (intro w' hSw; (try dsimp only at hSw); go_split_ands; go_simp; try with_reducible rfl)
        (try simp only [Act.put, List.setIfInBounds_toArray, List.set_cons_zero, List.set_cons_succ])
        refine upZ_take (i := 9) (oi := ⟨some 31, _, _, _, _, _⟩) (v := ?_) rfl (by kernel_rfl) (by kernel_rfl) (by kernel_rfl) (by kernel_rfl) (fun _ _ _ h => h) (Or.inl ⟨by rfl, ?_⟩) hHeld ?_
        rotate_left
        · (intro w' hSw; (try dsimp only at hSw); go_split_ands; go_simp; try with_reducible rfl)
        (try simp only [Act.put, List.setIfInBounds_toArray, List.set_cons_zero, List.set_cons_succ])
        refine upZ_take (i := 10) (oi := ⟨some 32, _, _, _, _, _⟩) (v := ?_) rfl (by kernel_rfl) (by kernel_rfl) (by kernel_rfl) (by kernel_rfl) (fun _ _ _ h => h) (Or.inl ⟨by rfl, ?_⟩) hHeld ?_
        rotate_left
        · (intro w' hSw; (try dsimp only at hSw); go_split_ands; go_simp; try with_reducible rfl)
        (try simp only [Act.put, List.setIfInBounds_toArray, List.set_cons_zero, List.set_cons_succ])
        refine upZ_take (i := 11) (oi := ⟨some 33, _, _, _, _, _⟩) (v := ?_) rfl (by kernel_rfl) (by kernel_rfl) (by kernel_rfl) (by kernel_rfl) (fun _ _ _ h => h) (Or.inl ⟨by rfl, ?_⟩) hHeld ?_
        rotate_left
        · (intro w' hSw; (try dsimp only at hSw); go_split_ands; go_simp; try with_reducible rfl)
        (try simp only [Act.put, List.setIfInBounds_toArray, List.set_cons_zero, List.set_cons_succ])
        refine upZ_take (i := 12) (oi := ⟨some 34, _, _, _, _, _⟩) (v := ?_) rfl (by kernel_rfl) (by kernel_rfl) (by kernel_rfl) (by kernel_rfl) (fun _ _ _ h => h) (Or.inl ⟨by rfl, ?_⟩) hHeld ?_
        rotate_left
        · (intro w' hSw; (try dsimp only at hSw); go_split_ands; go_simp; try with_reducible rfl)
        (try simp only [Act.put, List.setIfInBounds_toArray, List.set_cons_zero, List.set_cons_succ])
        refine upZ_take (i := 13) (oi := ⟨some 35, _, _, _, _, _⟩) (v := ?_) rfl (by kernel_rfl) (by kernel_rfl) (by kernel_rfl) (by kernel_rfl) (fun _ _ _ h => h) (Or.inl ⟨by rfl, ?_⟩) hHeld ?_
        rotate_left
        · (intro w' hSw; (try dsimp only at hSw); go_split_ands; go_simp; try with_reducible rfl)
        (try simp only [Act.put, List.setIfInBounds_toArray, List.set_cons_zero, List.set_cons_succ])
        refine upZ_take (i := 14) (oi := ⟨some 36, _, _, _, _, _⟩) (v := ?_) rfl (by kernel_rfl) (by kernel_rfl) (by kernel_rfl) (by kernel_rfl) (fun _ _ _ h => h) (Or.inl ⟨by rfl, ?_⟩) hHeld ?_
        rotate_left
        · (intro w' hSw; (try dsimp only at hSw); go_split_ands; go_simp; try with_reducible rfl)
        (try simp only [Act.put, List.setIfInBounds_toArray, List.set_cons_zero, List.set_cons_succ])
        refine upZ_take (i := 15) (oi := ⟨some 37, _, _, _, _, _⟩) (v := ?_) rfl (by kernel_rfl) (by kernel_rfl) (by kernel_rfl) (by kernel_rfl) (fun _ _ _ h => h) (Or.inl ⟨by rfl, ?_⟩) hHeld ?_
        rotate_left
        · (intro w' hSw; (try dsimp only at hSw); go_split_ands; go_simp; try with_reducible rfl)
        (try simp only [Act.put, List.setIfInBounds_toArray, List.set_cons_zero, List.set_cons_succ])
        refine upZ_take (i := 16) (oi := ⟨some 38, _, _, _, _, _⟩) (v := ?_) rfl (by kernel_rfl) (by kernel_rfl) (by kernel_rfl) (by kernel_rfl) (fun _ _ _ h => h) (Or.inl ⟨by rfl, ?_⟩) hHeld ?_
        rotate_left
        · (intro w' hSw; (try dsimp only at hSw); go_split_ands; go_simp; try with_reducible rfl)
        (try simp only [Act.put, List.setIfInBounds_toArray, List.set_cons_zero, List.set_cons_succ])
        refine upZ_take (i := 17) (oi := ⟨some 39, _, _, _, _, _⟩) (v := ?_) rfl (by kernel_rfl) (by kernel_rfl) (by kernel_rfl) (by kernel_rfl) (fun _ _ _ h => h) (Or.inl ⟨by rfl, ?_⟩) hHeld ?_
        rotate_left
        · (intro w' hSw; (try dsimp only at hSw); go_split_ands; go_simp; try with_reducible rfl)
        (try simp only [Act.put, List.setIfInBounds_toArray, List.set_cons_zero, List.set_cons_succ])
        refine upZ_take (i := 18) (oi := ⟨some 40, _, _, _, _, _⟩) (v := ?_) rfl (by kernel_rfl) (by kernel_rfl) (by kernel_rfl) (by kernel_rfl) (fun _ _ _ h => h) (Or.inl ⟨by rfl, ?_⟩) hHeld ?_
        rotate_left
        · (intro w' hSw; (try dsimp only at hSw); go_split_ands; go_simp; try with_reducible rfl)
        (try simp only [Act.put, List.setIfInBounds_toArray, List.set_cons_zero, List.set_cons_succ])
        refine upZ_take (i := 19) (oi := ⟨some 41, _, _, _, _, _⟩) (v := ?_) rfl (by kernel_rfl) (by kernel_rfl) (by kernel_rfl) (by kernel_rfl) (fun _ _ _ h => h) (Or.inl ⟨by rfl, ?_⟩) hHeld ?_
        rotate_left
        · (intro w' hSw; (try dsimp only at hSw); go_split_ands; go_simp; try with_reducible rfl)
        (try simp only [Act.put, List.setIfInBounds_toArray, List.set_cons_zero, List.set_cons_succ])
        refine upZ_only (i := 20) (o := ⟨some 42, _, _, _, _, _⟩) (by kernel_rfl) rfl rfl (fun K hK => ?_)
        go_simp
        go_at_call 18
        refine (KD.out wr.drew HBW.out.drew).mono ?_
        rintro e w5 ⟨rfl, L5, b5⟩
        have B5 : Hid (Below wr.heap.size wr w5) := hide (below_undrew' b5)
        have HL5 := hide L5
        clear L5 b5
        dsimp only
        refine hK.out _ _ (HKP.out _ B5.out) (fun hHeld => ?_)
        clear hK K
        (try simp only [Act.put, List.setIfInBounds_toArray, List.set_cons_zero, List.set_cons_succ])
        refine upZ_take (i := 21) (oi := ⟨some 43, _, _, _, _, _⟩) (v := ?_) rfl (by kernel_rfl) (by kernel_rfl) (by kernel_rfl) (by kernel_rfl) (fun _ _ _ h => h) (Or.inl ⟨by rfl, ?_⟩) hHeld ?_
        rotate_left
        · (intro w' hSw; (try dsimp only at hSw); go_split_ands; go_simp; try with_reducible rfl)
        (try simp only [Act.put, List.setIfInBounds_toArray, List.set_cons_zero, List.set_cons_succ])
        refine upZ_only (i := 22) (o := ⟨some 44, _, _, _, _, _⟩) (by kernel_rfl) rfl rfl (fun K hK => ?_)
        go_simp
        refine hK.out _ _ (HKP.out _ (B5.out.alloc B5.out.size _)) (fun hHeld => ?_)
        clear hK K
        (try simp only [Act.put, List.setIfInBounds_toArray, List.set_cons_zero, List.set_cons_succ])
        refine upZ_only (i := 23) (o := ⟨some 45, _, _, _, _, _⟩) (by kernel_rfl) rfl rfl (fun K hK => ?_)
        have HLIT : Hid ((w5.alloc (.cells #[.int .i64 xc, .int .i64 xt, .slice (some ⟨wr.heap.size, 0, none⟩) xn (xn + 8)] 60)).heap[w5.heap.size]? = some (.cells #[.int .i64 xc, .int .i64 xt, .slice (some ⟨wr.heap.size, 0, none⟩) xn (xn + 8)] 60 (0, 0))) := hide (heap_alloc_new w5 _)
        have HO2 : Hid ((w5.alloc (.cells #[.int .i64 xc, .int .i64 xt, .slice (some ⟨wr.heap.size, 0, none⟩) xn (xn + 8)] 60)).ownsRow (g2 + 1) 60 3 (.slice A j c) j (ogsC l)) := hide (World.ownsRow.alloc (World.ownsRow.kept HO.out (below_row B5.out none) (Classical.em _)) _)
        have HBA : Hid (Below wr.heap.size wr (w5.alloc (.cells #[.int .i64 xc, .int .i64 xt, .slice (some ⟨wr.heap.size, 0, none⟩) xn (xn + 8)] 60))) := hide (B5.out.alloc B5.out.size _)
        have HB3 : Hid (g2 + 1 ≤ (w5.alloc (.cells #[.int .i64 xc, .int .i64 xt, .slice (some ⟨wr.heap.size, 0, none⟩) xn (xn + 8)] 60)).heap.size) := hide (by have h0 := HG2.out; have h1 := HBA.out.size; omega)
        have HB4 : Hid ((w5.alloc (.cells #[.int .i64 xc, .int .i64 xt, .slice (some ⟨wr.heap.size, 0, none⟩) xn (xn + 8)] 60)).heap.size = w5.heap.size + 1) := hide (by simp)
        refine step_append_lies _ rfl _ _ _ (by rfl) (g2 + 1) 60 i0 _ 3 40 Tryz.underlying36 hi hz0 hz1 hz2 rfl (by omega) (.slice A j c) j (ogsC l) (by rfl) HO2.out ⟨w5.heap.size, 0, none⟩ 1 1 [.int .i64 xc, .int .i64 xt, .slice (some ⟨wr.heap.size, 0, none⟩) xn (xn + 8)] (by rfl) (by rfl) (World.news_of_block (cs := #[.int .i64 xc, .int .i64 xt, .slice (some ⟨wr.heap.size, 0, none⟩) xn (xn + 8)]) (t := 60) (fr := (0, 0)) HLIT.out) (by simp [Value.oneCell']) (by omega) HM1.out HM2.out HB3.out (w5.heap.size + 1) HB4.out ?_
        intro gg cap w4 hown4 hgrow hat hlt4
        have HHG := hide hgrow
        have HHO := hide hown4
        have HAT := hide hat
        clear hown4 hgrow hat hlt4
        refine hK.out _ _ (HKG.out _ _ HBA.out HHG.out) (fun hHeld => ?_)
        clear hK K
        (try simp only [Act.put, List.setIfInBounds_toArray, List.set_cons_zero, List.set_cons_succ])
        refine upZ_take (i := 24) (oi := ⟨some 46, _, _, _, _, _⟩) (v := ?_) rfl (by kernel_rfl) (by kernel_rfl) (by kernel_rfl) (by kernel_rfl) (fun _ _ _ h => h) (Or.inl ⟨by rfl, ?_⟩) hHeld ?_
        rotate_left
        · (intro w' hSw; (try dsimp only at hSw); go_split_ands; go_simp; try with_reducible rfl)
        (try simp only [Act.put, List.setIfInBounds_toArray, List.set_cons_zero, List.set_cons_succ])
        refine upZ_last (o := ⟨none, _, _, _, _, _⟩) (by kernel_rfl) rfl (by kernel_rfl) (fun K hK => ?_)
        have c4 := hHeld.2.2.2.2
        have s4 : w4.heap[g2]? = wr.heap[g2]? := (HHG.out.block g2 (Nat.lt_of_lt_of_le HG2.out HBA.out.size) (fun e => HA.out e.symm)).trans (HBA.out.block g2 HG2.out)
        have f4 := frozen_of_row w4 g2 3 _ _ (s4.trans HBX.out)
        clear hHeld s4
        go_simp
        refine hK.out _ _ ?_
        clear hK K
        (try simp only [Act.put, List.setIfInBounds_toArray, List.set_cons_zero, List.set_cons_succ])
        have hG2 : wr.grownBy w4 (Value.slice A l.length c).ownBlock := by
          rw [HLL.out]
          exact ⟨HHG.out.os.trans HBA.out.os, HHG.out.tape.trans HBA.out.tape, HHG.out.output.trans HBA.out.output, Nat.le_trans HBA.out.size HHG.out.size, fun k hk hne => (HHG.out.block k (Nat.lt_of_lt_of_le hk HBA.out.size) hne).trans (HBA.out.block k hk)⟩
        have hI2 : Hid (TlI w (w4.setCell ⟨g2, 3, none⟩ (.slice (some ⟨gg, 0, none⟩) (j + 1) cap)) g2 g1 38 60 T (j + 1) (some ⟨gg, 0, none⟩) cap (some ⟨gl, 0, none⟩) (m + 8) (l ++ [⟨xc, xt, some ⟨wr.heap.size, 0, none⟩, xn + 8, xd⟩])) := hide (by
          have hb4 := HB4.out
          have h5z : wr.drew.heap.size = wr.heap.size := rfl
          have := hI.out.below HBA.out |>.snoc (x := ⟨xc, xt, some ⟨wr.heap.size, 0, none⟩, xn + 8, xd⟩) (gg := gg) (cap := cap) (by rw [HLL.out]; exact HHG.out) (by rw [HLL.out]; unfold ogC; rw [← HXN.out]; exact HHO.out) (by
            rcases HAT.out with h1 | h1
            · exact .inl (by rw [HLL.out]; exact h1)
            · exact .inr (by omega)) ⟨((HL5.out.byt HL5.out.lt).below ((Below.refl w5.heap.size w5).alloc (Nat.le_refl _) _)).more (by have h1 := HB4.out; omega), (fun e => by cases e), by show xd.length ≤ xn + 8; have := HXN.out; omega⟩ (fun hp a e => by
              cases e
              have h1 := HG2.out
              have h2 := HG2L.out
              have h3 := Z0.out
              exact ⟨⟨by show wr.heap.size ≠ g2; omega, by show wr.heap.size ≠ g1; omega⟩, fun e2 => by have h4 : wr.heap.size < wr.heap.size := (World.ownsRow.lt hI.out.og.row _ e2).2; omega⟩) (by rw [← HLEN.out]; exact hlt) HSAY.out
          rwa [HLL.out] at this)
        have hQ2 : Hid ((w4.setCell ⟨g2, 3, none⟩ (.slice (some ⟨gg, 0, none⟩) (j + 1) cap)).heap[w.heap.size]? = some (.cells X 30 (0, 0)) ∧ (w4.setCell ⟨g2, 3, none⟩ (.slice (some ⟨gg, 0, none⟩) (j + 1) cap)).heap[g1]? = some (.cells (tunA false 0 0 none 0 0 none 0 0) 38 (0, 0))) := hide ⟨(hI.out.snoc_old hG2 (by have := Z0.out; have := HG2L.out; omega) _).trans hQ.out.1, (hI.out.snoc_old hG2 (by have := Z0.out; have := HG2L.out; omega) _).trans hQ.out.2⟩
        clear hG2 HHO HHG HAT HKG HKP c4 f4
        go_wp2
        go_roundw
        (case rel => exact ⟨j + 1, some ⟨gg, 0, none⟩, cap, _, by omega, by go_num, hI2, hQ2⟩)
        (case measure => simp [intOf]; omega)
      · obtain rfl : j = n := by omega
        have hI3 := hI.out
        rw [HLEN.out] at hI3
        have rz := hQ.out.2
        have hbx := hI.out.box
        rw [hll] at hbx
        obtain ⟨Y, hY⟩ : ∃ Y, Y = tunA T.o T.p T.v A j c (some ⟨gl, 0, none⟩) T.D.length (m + 8) := ⟨_, rfl⟩
        rw [← hY] at hbx
        have ys : Y.size = 5 := by rw [hY]; rfl
        have yx : Y.extract 0 5 = Y := by rw [hY]; rfl
        have yo : allOne Y = true := by rw [hY]; exact tunA_one _ _ _ _ _ _ _ _ _
        obtain ⟨Z, hZ⟩ : ∃ Z, Z = tunA false 0 0 none 0 0 none 0 0 := ⟨_, rfl⟩
        rw [← hZ] at rz
        have zs : Z.size = 5 := by rw [hZ]; rfl
        have HY := hide hY
        have HI3 := hide hI3
        have HLL := hide hll
        clear hI hI3 hY hZ hlt d0 d1 d2 d4 hll
        go_wp2
        refine bodyPost_ret (results_cell_row (fn := Tryz.f6) Tryz.results6 _ _ g1 38 Y (0, 0) _ rfl (setRow_heap wr _ _ _ _ _ rz) Tryz.underlying38 rfl (by rw [ys]; exact info_tunG)) rfl ?_
        have h4 := (HI3.out.box2 (grown_rowT wr g1 Y) (by have := Z0.out; omega) (by have := Z0.out; have := HG2L.out; omega))
        have h5 := h4.all
        rw [HLL.out, ← HY.out] at h5
        exact ⟨Y, rfl, h5, h4.bel⟩
end Go.Proofs.YtihakjcccbionaaGreatDoor

end
section
/-
  Words for the rows whose arguments are ways, as the document's own has them: opened to two addresses and three numbers.
-/
namespace Go.Proofs.YtihakjcccbionaaGreatDoor
open Go.ChangeShapes Go.WideShapes Go.ChangeAt Go.RowKit
set_option maxRecDepth 100000
set_option linter.unusedVariables false
set_option linter.constructorNameAsVariable false

theorem cells_rpa : Tryz.prog.cellsOf 26 = 37 := by kernel_rfl
theorem fields_of_rpa : ∃ f0 f1 f2 f3 f4 : Field, Tryz.prog.underlying 26 = some (.struct #[f0, f1, f2, f3, f4]) ∧ (f0.type = 24 ∧ f0.offset = 0) ∧ (f1.type = 24 ∧ f1.offset = 17) ∧ (f2.type = 3 ∧ f2.offset = 34) ∧ (f3.type = 3 ∧ f3.offset = 35) ∧ (f4.type = 3 ∧ f4.offset = 36) := ⟨_, _, _, _, _, Tryz.underlying26, ⟨rfl, rfl⟩, ⟨rfl, rfl⟩, ⟨rfl, rfl⟩, ⟨rfl, rfl⟩, ⟨rfl, rfl⟩⟩
/-- a way as it came in. -/
theorem open_rpa {H : Type} {enc : TypeId × Value → H} {W : World} {r : Reach} {b0 : Nat} {v : Value} {d : DataW H} {p : List MemPlace}
    (hv : Value.okWide Tryz.prog W r b0 26 v) (h : DataW.Trod enc Tryz.prog W 0 (fun _ => true) true 26 v d p) :
    ∃ X q, v = .agg X ∧ PaV X q := by
  obtain ⟨f0, f1, f2, f3, f4, hu, ⟨t0, o0⟩, ⟨t1, o1⟩, ⟨t2, o2⟩, ⟨t3, o3⟩, ⟨t4, o4⟩⟩ := fields_of_rpa
  obtain ⟨cs, rfl, hsz⟩ := okWide_struct hu hv
  obtain ⟨fuel, hf⟩ := h
  obtain ⟨xs, n, rfl, hd, hlen, hxl, hg⟩ := DataW.trod_struct hu hf
  have hg0 := hg 0 f0 rfl
  rw [t0, o0, cells_ad] at hg0
  have hg1 := hg 1 f1 rfl
  rw [t1, o1, cells_ad] at hg1
  have hg2 := hg 2 f2 rfl
  rw [t2, o2, cells_intP] at hg2
  have hg3 := hg 3 f3 rfl
  rw [t3, o3, cells_intP] at hg3
  have hg4 := hg 4 f4 rfl
  rw [t4, o4, cells_intP] at hg4
  have hs : cs.toList.length = 37 := by rw [Array.length_toList, hsz, cells_rpa]
  match xs, hxl with
  | [y0, y1, y2, y3, y4], _ =>
    have k0 : DataW.trod enc Tryz.prog W 0 (fun _ => true) true n 24 ((cs.toList.drop 0).take 17) = some y0 := hg0
    have k1 : DataW.trod enc Tryz.prog W 0 (fun _ => true) true n 24 ((cs.toList.drop 17).take 17) = some y1 := hg1
    have k2 : DataW.trod enc Tryz.prog W 0 (fun _ => true) true n 3 ((cs.toList.drop 34).take 1) = some y2 := hg2
    have k3 : DataW.trod enc Tryz.prog W 0 (fun _ => true) true n 3 ((cs.toList.drop 35).take 1) = some y3 := hg3
    have k4 : DataW.trod enc Tryz.prog W 0 (fun _ => true) true n 3 ((cs.toList.drop 36).take 1) = some y4 := hg4
    obtain ⟨s, sl, hsl, e0⟩ := trod_adP (by rw [List.length_take, List.length_drop, hs]; decide) k0
    obtain ⟨s', sl', hsl', e1⟩ := trod_adP (by rw [List.length_take, List.length_drop, hs]; decide) k1
    obtain ⟨z2, e2, _, _⟩ := DataW.trod_int Tryz.underlying3 k2
    obtain ⟨z3, e3, _, _⟩ := DataW.trod_int Tryz.underlying3 k3
    obtain ⟨z4, e4, _, _⟩ := DataW.trod_int Tryz.underlying3 k4
    have hc : cs.toList = paL ⟨s, sl, s', sl', z2, z3, z4⟩ := by
      have s0 : cs.toList = (cs.toList.drop 0).take 17 ++ cs.toList.drop 17 := by rw [List.drop_zero, List.take_append_drop]
      have s1 : cs.toList.drop 17 = (cs.toList.drop 17).take 17 ++ cs.toList.drop 34 := by
        have := (List.take_append_drop 17 (cs.toList.drop 17)).symm
        rwa [List.drop_drop] at this
      have s2 : cs.toList.drop 34 = (cs.toList.drop 34).take 1 ++ cs.toList.drop 35 := by
        have := (List.take_append_drop 1 (cs.toList.drop 34)).symm
        rwa [List.drop_drop] at this
      have s3 : cs.toList.drop 35 = (cs.toList.drop 35).take 1 ++ cs.toList.drop 36 := by
        have := (List.take_append_drop 1 (cs.toList.drop 35)).symm
        rwa [List.drop_drop] at this
      have s4 : cs.toList.drop 36 = (cs.toList.drop 36).take 1 := by rw [List.take_of_length_le (by rw [List.length_drop, hs]; decide)]
      rw [s0, s1, s2, s3, s4, e0, e1, e2, e3, e4]
      rfl
    have hX : cs = (paL ⟨s, sl, s', sl', z2, z3, z4⟩).toArray := by rw [← hc]
    exact ⟨cs, _, rfl, ⟨hX, hsl, hsl'⟩⟩
end Go.Proofs.YtihakjcccbionaaGreatDoor

end
section
/-
  Words for the rows whose arguments are tunnels, as the document's own has them: opened to their numbers, their options, their bytes, by the bound on the bulk.
-/
namespace Go.Proofs.YtihakjcccbionaaGreatDoor
open Go.ChangeShapes Go.WideShapes Go.ChangeAt Go.RowKit Go.Deep
set_option maxRecDepth 100000
set_option linter.unusedVariables false
set_option linter.constructorNameAsVariable false

instance : Inhabited OpG := ⟨⟨0, 0, none, 0, []⟩⟩
theorem cells_intO : Tryz.prog.cellsOf 3 = 1 := by kernel_rfl
theorem cells_boolO : Tryz.prog.cellsOf 4 = 1 := by kernel_rfl
theorem cells_bytesO : Tryz.prog.cellsOf 28 = 1 := by kernel_rfl
theorem cells_optO : Tryz.prog.cellsOf 59 = 3 := by kernel_rfl
theorem cells_optsO : Tryz.prog.cellsOf 27 = 1 := by kernel_rfl
theorem cells_tunO : Tryz.prog.cellsOf 30 = 5 := by kernel_rfl
theorem fields_optO : ∃ f0 f1 f2 : Field, Tryz.prog.underlying 59 = some (.struct #[f0, f1, f2]) ∧ (f0.type = 3 ∧ f0.offset = 0) ∧ (f1.type = 3 ∧ f1.offset = 1) ∧ (f2.type = 28 ∧ f2.offset = 2) := ⟨_, _, _, Tryz.underlying59, ⟨rfl, rfl⟩, ⟨rfl, rfl⟩, ⟨rfl, rfl⟩⟩
theorem fields_tunO : ∃ f0 f1 f2 f3 f4 : Field, Tryz.prog.underlying 30 = some (.struct #[f0, f1, f2, f3, f4]) ∧ (f0.type = 4 ∧ f0.offset = 0) ∧ (f1.type = 3 ∧ f1.offset = 1) ∧ (f2.type = 3 ∧ f2.offset = 2) ∧ (f3.type = 27 ∧ f3.offset = 3) ∧ (f4.type = 28 ∧ f4.offset = 4) := ⟨_, _, _, _, _, Tryz.underlying30, ⟨rfl, rfl⟩, ⟨rfl, rfl⟩, ⟨rfl, rfl⟩, ⟨rfl, rfl⟩, ⟨rfl, rfl⟩⟩
/-- a list of bytes in a field, no longer than its bulk. -/
theorem trod_listO {H : Type} {enc : TypeId × Value → H} {W : World} {fuel : Nat} {cs : List Value} {x : DataW H × List MemPlace} (h : DataW.trod enc Tryz.prog W 0 (fun _ => true) true fuel 28 cs = some x) :
    ∃ A c l, cs = [.slice A l.length c] ∧ l.length ≤ c ∧ c ≤ Rows.uptoBulk x.1 ∧ Byt W W.heap.size A l ∧ (A = none → c = 0) := by
  have hV : ∃ A ln cp, cs = [.slice A ln cp] := by
    rcases open_ints Tryz.underlying28 Tryz.underlying5 cells_u8 h with ⟨hc, _⟩ | ⟨a, ln, cp, zs, hc, _⟩
    · exact ⟨none, 0, 0, hc⟩
    · exact ⟨some a, ln, cp, hc⟩
  obtain ⟨A, ln, cp, rfl⟩ := hV
  obtain ⟨l, rfl, h1, h2, h3, h4⟩ := open_u8s (enc := enc) (W := W) (a0 := A) (len := ln) (cap := cp) (d := x.1) (p := x.2) (Rows.uptoBulk x.1) ⟨fuel, by simpa [Value.cells] using h⟩ (fun elems spare e => by
    rw [bytes_u8, Nat.mul_one, e, Rows.uptoBulk]
    have := bulk_count elems
    have := bulk_count spare
    omega)
  exact ⟨A, cp, l, rfl, h1, h2, h3, h4⟩
theorem sizeG_bulk {H : Type} (q : Nat → OpG) (D : Nat → DataW H) : ∀ ls : List Nat, (∀ i ∈ ls, 4 + (q i).d.length ≤ 4 * Rows.uptoBulk (D i)) → sizeG (ls.map q) ≤ 4 * Rows.uptoBulkAll (ls.map D)
  | [], _ => by simp [sizeG]
  | i :: ls, h => by
    have h1 := h i List.mem_cons_self
    have h2 := sizeG_bulk q D ls (fun j hj => h j (List.mem_cons_of_mem _ hj))
    rw [List.map_cons, List.map_cons, sizeG, Rows.uptoBulkAll]
    omega
/-- options in a field. -/
theorem trod_optsO {H : Type} {enc : TypeId × Value → H} {W : World} {fuel : Nat} {cs : List Value} {x : DataW H × List MemPlace} (h : DataW.trod enc Tryz.prog W 0 (fun _ => true) true fuel 27 cs = some x) (hk : Rows.uptoBulk x.1 ≤ 1048576) :
    ∃ A c l, cs = [.slice A l.length c] ∧ l.length ≤ c ∧ RdG W W.heap.size A l ∧ OgB W W.heap.size l ∧ l.length ≤ 1048576 ∧ sizeG l ≤ 8388608 ∧ ∀ y ∈ l, y.d.length ≤ 1048576 := by
  obtain ⟨f0, f1, f2, he, ⟨t0, o0⟩, ⟨t1, o1⟩, ⟨t2, o2⟩⟩ := fields_optO
  rcases open_slice Tryz.underlying27 h with ⟨rfl, _⟩ | ⟨a, len, c, m, n, D, Pl, rfl, hb, hl, hm, hmm, rfl, hcell⟩
  · exact ⟨none, 0, [], rfl, Nat.le_refl _, fun h => by simp at h, OgB.nil _ _, by simp, by simp [sizeG], fun y hy => by simp at hy⟩
  · obtain rfl : m = c := by simpa using hmm
    have each : ∀ i, i < m → ∃ q : OpG, W.cell? (a.add (i * 3)) = some (.int .i64 q.c) ∧ W.cell? (a.add (i * 3 + 1)) = some (.int .i64 q.t) ∧ W.cell? (a.add (i * 3 + 2)) = some (.slice q.a q.d.length q.k) ∧ Byt W W.heap.size q.a q.d ∧ (q.a = none → q.k = 0) ∧ q.d.length ≤ q.k ∧ q.d.length + 1 ≤ Rows.uptoBulk (D i) := fun i hi => by
      obtain ⟨cs', h1, h2⟩ := hcell i hi
      rw [cells_optO] at h1
      obtain ⟨_, hlen, hc⟩ := World.cells?_some h1
      obtain ⟨xs, k, hk', hxy, _, hxl, hff⟩ := DataW.trod_struct he h2
      match xs, hxl, cs', hlen with
      | [y0, y1, y2], _, [v0, v1, v2], _ =>
        have g0 := hff 0 f0 rfl
        have g1 := hff 1 f1 rfl
        have g2 := hff 2 f2 rfl
        rw [t0, o0, cells_intO] at g0
        rw [t1, o1, cells_intO] at g1
        rw [t2, o2, cells_bytesO] at g2
        have e0 := hc 0 (by omega)
        have e1 := hc 1 (by omega)
        have e2 := hc 2 (by omega)
        rw [add_add] at e0 e1 e2
        obtain ⟨z0, hz0, _, _⟩ := DataW.trod_int Tryz.underlying3 g0
        obtain ⟨z1, hz1, _, _⟩ := DataW.trod_int Tryz.underlying3 g1
        obtain ⟨A2, c2, l2, hz2, m2, b2, y2', n2⟩ := trod_listO g2
        simp at hz0 hz1 hz2
        have hDi : D i = .agg [y0.1, y1.1, y2.1] := congrArg Prod.fst hxy
        refine ⟨⟨z0, z1, A2, c2, l2⟩, ?_, ?_, ?_, y2', n2, m2, ?_⟩
        · rw [← hz0]; simpa using e0
        · rw [← hz1]; simpa using e1
        · rw [← hz2]; simpa using e2
        · have h5 : Rows.uptoBulk y2.1 ≤ Rows.uptoBulkAll [y0.1, y1.1, y2.1] := bulk_of_mem (by simp)
          rw [hDi, Rows.uptoBulk]
          show l2.length + 1 ≤ _
          omega
    obtain ⟨q, hq⟩ := choose_lt each
    have hlm : len ≤ m := hl
    have hk2 : Rows.uptoBulkAll ((List.range len).map D) + Rows.uptoBulkAll ((List.range (m - len)).map fun j => D (len + j)) + 1 ≤ 1048576 := by rw [Rows.uptoBulk] at hk; exact hk
    have hcnt := bulk_count ((List.range len).map D)
    simp only [List.length_map, List.length_range] at hcnt
    refine ⟨some a, m, (List.range len).map q, by simp, by simp; omega, fun hpos => ?_, fun y hy => ?_, by simp; omega, ?_, fun y hy => ?_⟩
    · simp at hpos
      obtain ⟨b, off, spot⟩ := a
      obtain ⟨h0, _⟩ := hq 0 (by omega)
      have hspot : spot = none := by
        have := World.cell?_spot h0
        simpa [Addr.add] using this
      subst hspot
      have hlt : b < W.heap.size := by
        have := World.block_lt_of_cell? W _ h0
        rwa [block_of_add] at this
      refine ⟨b, off, rfl, hlt, fun i hi => ?_⟩
      simp at hi
      obtain ⟨h1, h2, h3, -⟩ := hq i (by omega)
      rw [add_none] at h1 h2 h3
      simp only [List.getElem_map, List.getElem_range]
      exact ⟨h1, by rw [Nat.add_assoc]; exact h2, by rw [Nat.add_assoc]; exact h3⟩
    · obtain ⟨i, hi, rfl⟩ := List.mem_map.1 hy
      rw [List.mem_range] at hi
      obtain ⟨-, -, -, h4, h5, h6, -⟩ := hq i (by omega)
      exact ⟨h4, h5, h6⟩
    · refine Nat.le_trans (sizeG_bulk q D (List.range len) (fun i hi => ?_)) (by omega)
      rw [List.mem_range] at hi
      have := (hq i (by omega)).2.2.2.2.2.2
      omega
    · obtain ⟨i, hi, rfl⟩ := List.mem_map.1 hy
      rw [List.mem_range] at hi
      have h7 := (hq i (by omega)).2.2.2.2.2.2
      have h8 : Rows.uptoBulk (D i) ≤ Rows.uptoBulkAll ((List.range len).map D) := bulk_of_mem (List.mem_map.2 ⟨i, List.mem_range.2 hi, rfl⟩)
      omega
/-- a tunnel as it came in. -/
theorem open_rtunO {H : Type} {enc : TypeId × Value → H} {W : World} {r : Reach} {b0 : Nat} {v : Value} {d : DataW H} {p : List MemPlace}
    (hv : Value.okWide Tryz.prog W r b0 30 v) (h : DataW.Trod enc Tryz.prog W 0 (fun _ => true) true 30 v d p) (hb : Rows.uptoBulk d ≤ 1048576) :
    ∃ X T, v = .agg X ∧ TuG W X T ∧ T.l.length ≤ 1048576 ∧ sizeD T.l ≤ 8388608 ∧ T.D.length ≤ 1048576 ∧ ∀ y ∈ T.l, y.2.2.length ≤ 1048576 := by
  obtain ⟨f0, f1, f2, f3, f4, hu, ⟨t0, o0⟩, ⟨t1, o1⟩, ⟨t2, o2⟩, ⟨t3, o3⟩, ⟨t4, o4⟩⟩ := fields_tunO
  obtain ⟨cs, rfl, hsz⟩ := okWide_struct hu hv
  obtain ⟨fuel, hf⟩ := h
  obtain ⟨xs, n, rfl, hd, hlen, hxl, hg⟩ := DataW.trod_struct hu hf
  have hg0 := hg 0 f0 rfl
  rw [t0, o0, cells_boolO] at hg0
  have hg1 := hg 1 f1 rfl
  rw [t1, o1, cells_intO] at hg1
  have hg2 := hg 2 f2 rfl
  rw [t2, o2, cells_intO] at hg2
  have hg3 := hg 3 f3 rfl
  rw [t3, o3, cells_optsO] at hg3
  have hg4 := hg 4 f4 rfl
  rw [t4, o4, cells_bytesO] at hg4
  have hs : cs.toList.length = 5 := by rw [Array.length_toList, hsz, cells_tunO]
  match xs, hxl with
  | [y0, y1, y2, y3, y4], _ =>
    have k0 : DataW.trod enc Tryz.prog W 0 (fun _ => true) true n 4 ((cs.toList.drop 0).take 1) = some y0 := hg0
    have k1 : DataW.trod enc Tryz.prog W 0 (fun _ => true) true n 3 ((cs.toList.drop 1).take 1) = some y1 := hg1
    have k2 : DataW.trod enc Tryz.prog W 0 (fun _ => true) true n 3 ((cs.toList.drop 2).take 1) = some y2 := hg2
    have k3 : DataW.trod enc Tryz.prog W 0 (fun _ => true) true n 27 ((cs.toList.drop 3).take 1) = some y3 := hg3
    have k4 : DataW.trod enc Tryz.prog W 0 (fun _ => true) true n 28 ((cs.toList.drop 4).take 1) = some y4 := hg4
    have hd' : d = .agg [y0.1, y1.1, y2.1, y3.1, y4.1] := by
      have := congrArg Prod.fst hd
      exact this
    rw [hd', Rows.uptoBulk] at hb
    have h3 : Rows.uptoBulk y3.1 ≤ Rows.uptoBulkAll [y0.1, y1.1, y2.1, y3.1, y4.1] := bulk_of_mem (by simp)
    have h4 : Rows.uptoBulk y4.1 ≤ Rows.uptoBulkAll [y0.1, y1.1, y2.1, y3.1, y4.1] := bulk_of_mem (by simp)
    obtain ⟨z0, e0, _⟩ := DataW.trod_bool Tryz.underlying4 k0
    obtain ⟨z1, e1, _, _⟩ := DataW.trod_int Tryz.underlying3 k1
    obtain ⟨z2, e2, _, _⟩ := DataW.trod_int Tryz.underlying3 k2
    obtain ⟨A, c, l, e3, m3, r3, ob3, n3, s3, x3⟩ := trod_optsO k3 (by omega)
    obtain ⟨I, k, D, e4, m4, n4, o4, p4⟩ := trod_listO k4
    have hc : cs.toList = (tunA z0 z1 z2 A l.length c I D.length k).toList := by
      have s0 : cs.toList = (cs.toList.drop 0).take 1 ++ cs.toList.drop 1 := by rw [List.drop_zero, List.take_append_drop]
      have s1 : cs.toList.drop 1 = (cs.toList.drop 1).take 1 ++ cs.toList.drop 2 := by
        have := (List.take_append_drop 1 (cs.toList.drop 1)).symm
        rwa [List.drop_drop] at this
      have s2 : cs.toList.drop 2 = (cs.toList.drop 2).take 1 ++ cs.toList.drop 3 := by
        have := (List.take_append_drop 1 (cs.toList.drop 2)).symm
        rwa [List.drop_drop] at this
      have s3 : cs.toList.drop 3 = (cs.toList.drop 3).take 1 ++ cs.toList.drop 4 := by
        have := (List.take_append_drop 1 (cs.toList.drop 3)).symm
        rwa [List.drop_drop] at this
      have s4 : cs.toList.drop 4 = (cs.toList.drop 4).take 1 := by rw [List.take_of_length_le (by rw [List.length_drop, hs]; decide)]
      rw [s0, s1, s2, s3, s4, e0, e1, e2, e3, e4]
      rfl
    have hX : cs = tunA z0 z1 z2 A l.length c I D.length k := by
      have := congrArg List.toArray hc
      simpa using this
    refine ⟨cs, ⟨z0, z1, z2, l.map OpG.say, D⟩, rfl, ⟨A, c, l, I, k, hX, rfl, r3, ob3, m3, o4, p4, m4⟩, by simpa using n3, by rw [← sizeG_say]; exact s3, by show D.length ≤ _; omega, fun y hy => ?_⟩
    obtain ⟨z, hz, rfl⟩ := List.mem_map.1 hy
    exact x3 z hz
end Go.Proofs.YtihakjcccbionaaGreatDoor

end
