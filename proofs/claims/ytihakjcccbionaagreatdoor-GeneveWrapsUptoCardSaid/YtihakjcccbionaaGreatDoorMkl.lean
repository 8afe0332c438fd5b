import Derived.Test.YtihakjcccbionaaGreatDoorMke
section
/-
  The walk of segment.Parse: of a segment of TCP, of a datagram, of another protocol.
-/
namespace Go.Proofs.YtihakjcccbionaaGreatDoor
open Go.RowKit
attribute [local go_sem ↓] exec_span exec_put exec_build heap_alloc_new heap_old heap_alloc_drew
attribute [local go_sem] spanQ_ptr spanC_some heap_of_drew heap_of_drewN rs_arr rs_ad rs_ip rs_rip rs_seg putAt_ptr putOk_ptr oldOk_some World.setRow_alloc_new setRow_drew
set_option maxRecDepth 100000
set_option linter.unusedVariables false
set_option linter.unusedSimpArgs false

theorem items_nine {items : List VItem} {l0 l1 l2 l3 l4 l5 l6 l7 l8 : Nat × List UInt8} (h : items.map (fun it => (it.N, it.b)) = [l0, l1, l2, l3, l4, l5, l6, l7, l8]) :
    ∃ i0 i1 i2 i3 i4 i5 i6 i7 i8, items = [i0, i1, i2, i3, i4, i5, i6, i7, i8] ∧ (i0.N, i0.b) = l0 ∧ (i1.N, i1.b) = l1 ∧ (i2.N, i2.b) = l2 ∧ (i3.N, i3.b) = l3 ∧ (i4.N, i4.b) = l4 ∧ (i5.N, i5.b) = l5 ∧ (i6.N, i6.b) = l6 ∧ (i7.N, i7.b) = l7 ∧ (i8.N, i8.b) = l8 := by
  match items, h with
  | [i0, i1, i2, i3, i4, i5, i6, i7, i8], h =>
    simp only [List.map_cons, List.map_nil, List.cons.injEq, and_true] at h
    exact ⟨i0, i1, i2, i3, i4, i5, i6, i7, i8, rfl, h⟩
def tSg (a b : Int) (q k : Nat) (f wn u : Int) : Sg := ⟨6, a, b, q, k, f, wn, u, false, none, 0, 0, none, 0, 0⟩
theorem built_tcp (a b q k f wn u : Int) : Tryz.prog.built 55 [(0, .int .i64 6), (1, .int .i64 a), (2, .int .i64 b), (3, .int .u32 q), (4, .int .u32 k), (5, .int .i64 f), (6, .int .i64 wn), (7, .int .i64 u)] = some #[.int .i64 6, .int .i64 a, .int .i64 b, .int .u32 q, .int .u32 k, .int .i64 f, .int .i64 wn, .int .i64 u, .bool false, .slice none 0 0, .slice none 0 0] := by kernel_rfl
theorem nmB_four (D : List UInt8) (k : Nat) : nmB D k 4 < 4294967296 := by
  have h1 := numS_lt ((D.drop k).take 4)
  have h2 : 256 ^ ((D.drop k).take 4).length ≤ 256 ^ 4 := Nat.pow_le_pow_right (by decide) (by rw [List.length_take]; omega)
  have h3 : (256 : Nat) ^ 4 = 4294967296 := by decide
  unfold nmB
  omega
theorem nmB_one (D : List UInt8) (k : Nat) : nmB D k 1 < 256 := by
  have h1 := numS_lt ((D.drop k).take 1)
  have h2 : 256 ^ ((D.drop k).take 1).length ≤ 256 ^ 1 := Nat.pow_le_pow_right (by decide) (by rw [List.length_take]; omega)
  have h3 : (256 : Nat) ^ 1 = 256 := by decide
  unfold nmB
  omega
/-- a segment that is read: its lists in memory of their own. -/
theorem parS_tcp {w w6 w7 w8 : World} {h : Ip} {D : List UInt8} {Y8 : Array Value} {A1 A2 : Option Addr} {c1 c2 G z : Nat} (hE : segE h D = 0) (hp : h.p = 6) (V : SgV Y8 (gotS h D A1 c1 A2 c2)) (h6 : Below w.heap.size w w6) (g1 : Gave w6 w7 A1 c1 ((D.drop 20).take (hdT D - 20))) (g2 : Gave w6 w7 A2 c2 (D.drop (hdT D))) (b7 : Below w6.heap.size w6 w7) (h78 : w7.grownBy w8 (some G)) (hG : G < w6.heap.size) (hG2 : w.heap.size ≤ G) (hz : w.heap.size ≤ z) (hz6 : z < w6.heap.size) :
    ParS w h D (.returned (.tuple #[.agg Y8, .int .i64 0])) (w8.setRow z Y8) := by
  have n6 := h6.size
  have n7 := b7.size
  have n8 : w7.heap.size ≤ w8.heap.size := h78.size
  have hs := setRow_grown w8 z Y8
  have hb8 : Below w.heap.size w w8 := (h6.trans (b7.mono n6)).grown h78 (by omega) (fun i e => by cases e; exact hG2)
  have key : ∀ (A : Option Addr) (c : Nat) (l : List UInt8), Gave w6 w7 A c l → Gave w (w8.setRow z Y8) A c l := fun A c l ⟨y1, y2, y3, y4⟩ => by
    have q1 : Byt w8 w7.heap.size A l := y1.other (Nat.le_refl _) h78 (fun a e => by have := y4 a e; omega)
    have q2 : Byt (w8.setRow z Y8) w7.heap.size A l := q1.other n8 hs (fun a e => by have := y4 a e; omega)
    exact ⟨q2.more (by rw [size_setRow]; exact n8), y2, y3, fun x e => Nat.le_trans n6 (y4 x e)⟩
  refine ⟨_, by rw [hE], below_setRow hb8 hz _, fun h0 => absurd hE h0, fun _ => ⟨A1, c1, A2, c2, V, ?_, ?_⟩⟩
  · unfold optS
    rw [hp]
    exact key _ _ _ g1
  · unfold datS hdS
    rw [hp]
    exact key _ _ _ g2

set_option maxHeartbeats 8000000 in
theorem parseT_any (w : World) (X : Array Value) (h : Ip) (x : IpV X h) (D : List UInt8) (hp : h.p = 6) (hD : Byt w w.heap.size h.ad D) (hDl : D.length = h.nd) (hdc : h.nd ≤ h.cd) (hm : h.nd ≤ 140737488355328) :
    Calls Tryz.prog 59 #[.agg X] w fun e w' => ParS w h D e w' := by
  have hxs := x.size
  have hxr := x.x0
  obtain ⟨W, hW⟩ : ∃ W, (w.alloc (.cells X 51)).alloc (.cells (sgL nSg).toArray 55) = W := ⟨_, rfl⟩
  obtain ⟨r1, r2, hz, hbW⟩ := two_packs w X _ _ _ W hW
  obtain ⟨Z, hZ⟩ : ∃ Z, Z = (sgL nSg).toArray := ⟨_, rfl⟩
  have hbn := built_noneS
  rw [← hZ] at r2 hbn
  have hZs : Z.size = 11 := by rw [hZ]; rfl
  have hZo : allOne Z = true := by rw [hZ]; exact nSg_ok.one
  have HZE := hide hZ
  have hkeep := hide (fun (W1 : World) (b : Below W.heap.size W W1) => (⟨(b.block w.heap.size (by omega)).trans r1, (b.block (w.heap.size + 1) (by omega)).trans r2⟩ : W1.heap[w.heap.size]? = some (.cells X 51 (0, 0)) ∧ W1.heap[w.heap.size + 1]? = some (.cells Z 55 (0, 0))))
  have HXC : Hid (∀ W1 : World, Below W.heap.size W W1 → W1.cell? ⟨w.heap.size, 42, none⟩ = some (.slice h.ad D.length h.cd)) := hide (fun W1 b => hDl ▸ (x.cells (hkeep.out W1 b).1).c42)
  have c42 := HXC.out W (Below.refl _ _)
  have c42d : W.drew.cell? ⟨w.heap.size, 42, none⟩ = some (.slice h.ad D.length h.cd) := c42
  obtain ⟨RR, hRR⟩ : ∃ R, R = runS D (opsN tcpN) 0 := ⟨_, rfl⟩
  have KR : Hid (∀ (W1 : World), Below W.heap.size W W1 → ∀ (Al : Option Addr) (cl : Nat), Ops W1 W1.heap.size Al (opsN tcpN) → Calls Tryz.prog 90 #[.slice h.ad D.length h.cd, .slice Al 9 cl] W1 fun e w' => ∃ vv items, e = .returned (.tuple #[vv, .int .i64 (RR.2.1 : Int), .int .i64 (RR.2.2 : Int)]) ∧ OwnV w' W1.heap.size vv items ∧ items.map (fun it => (it.N, it.b)) = RR.1 ∧ Below W1.heap.size W1 w') := hide (fun W1 b Al cl ho => by
    rw [hRR]
    exact run_any W1 h.ad Al D h.cd cl (opsN tcpN) (by omega) (by omega) ((hD.below (hbW.trans (b.mono hbW.size))).more (Nat.le_trans hbW.size b.size)) ho (by simp [opsN, tcpN]))
  have KS := hide (fun (W1 : World) (b : Below W.heap.size W W1) (h8 : 20 ≤ D.length) => sumS_any W1 X h x h.ad h.cd D ((hD.below (hbW.trans (b.mono hbW.size))).more (Nat.le_trans hbW.size b.size)) (by omega) (by omega) (by rw [hp, if_pos rfl]; omega))
  have KB := hide (fun (W1 : World) (b : Below W.heap.size W W1) (hd : Nat) (h20 : 20 ≤ hd) (hle : hd ≤ D.length) => behindS_any W1 h.ad h.cd D 20 hd ((hD.below (hbW.trans (b.mono hbW.size))).more (Nat.le_trans hbW.size b.size)) (by omega) (by omega) h20 hle (by omega))
  rw [hp, if_pos rfl] at KS
  have HP := hide hp
  have HB := hide hbW
  have HW := hide hW
  have HZ := hide hz
  have HM : Hid (D.length ≤ 140737488355328) := hide (by omega)
  have HRUN := runS_nums D tcpN 0 (by simp [tcpN]) (Nat.zero_le _)
  rw [← hRR] at HRUN
  have HRUN := hide HRUN
  clear hRR hp hbW hW hz hD hDl hdc hm x r1 r2 hZ
  go_enter Tryz.func59, Tryz.ntmps59
  go_upto_region 1 with (fail)
  change Code.wp _ _ _ _ ((w.alloc (.cells X 51)).alloc (.cells (sgL nSg).toArray 55))
  rw [HW.out]
  go_region_held3 (fun w' => w'.cell? ⟨w.heap.size, 42, none⟩ = some (.slice h.ad D.length h.cd))
    (first | exact c42d | exact c42 | exact d42 | exact e42 | fail)
    (first
      | (go_at_call 68; (with_reducible refine (piecesT_any _).mono ?_); rintro e w2 ⟨v2, rfl, o2, b2⟩
         have B2 : Hid (Below W.heap.size W w2) := hide (below_undrew' b2)
         obtain ⟨Al, cl, ev, hop, -⟩ := o2.shape
         have ev' : v2 = .slice Al 9 cl := ev
         subst ev'
         clear ev
         have O2 : Hid (Ops w2 w2.heap.size Al (opsN tcpN)) := hide hop
         have d42 := HXC.out w2 B2.out
         clear b2 o2 hop)
      | (go_at_call 90; (with_reducible refine (KR.out w2 B2.out Al cl O2.out).mono ?_); rintro e w3 ⟨vv, items, rfl, hov, hit, b3⟩
         have B3 : Hid (Below W.heap.size W w3) := hide (B2.out.trans (b3.mono B2.out.size))
         have e42 := HXC.out w3 B3.out
         have HOV := hide hov
         have HIT := hide hit
         clear b3 hov hit)
      | fail)
  all_goals (
    obtain ⟨p3, z3⟩ := hkeep.out w3 B3.out
    have BB3 : Hid (Below w.heap.size w w3) := hide (HB.out.trans (B3.out.mono HB.out.size))
    clear c42 c42d d42
    by_cases h8 : D.length < 20
    · have hE : Hid (segE h D = 10) := hide (by unfold segE tcpE; rw [HP.out, if_pos rfl, if_pos h8])
      have hr : RR.2.2 = 10 := HRUN.out.2 (by simpa [tcpN] using h8)
      rw [hr]
      clear hr
      go_wp2
      have hrow := setRow_heap w3 (w.heap.size + 1) Z Z _ _ z3
      refine bodyPost_ret (results_cell_tmp (fn := Tryz.f59) Tryz.results59 _ _ (w.heap.size + 1) 55 Z (0, 0) _ rfl hrow Tryz.underlying55 rfl (by rw [hZs]; exact info_seg)) rfl ?_
      exact parS_err HZE.out hE.out (by decide) (below_setRow BB3.out (by omega) _)
    · have hRR := HRUN.out.1 (by simp [tcpN]; omega)
      rw [hRR] at HIT ⊢
      obtain ⟨i0, i1, i2, i3, i4, i5, i6, i7, i8, rfl, e0, e1, e2, e3, e4, e5, e6, e7, e8⟩ := items_nine (by simpa [numsAt, tcpN] using HIT.out)
      obtain ⟨Av, cv, rfl, hcv, hcell⟩ := HOV.out.shape
      obtain ⟨gg, rfl, hgg, hgl, hcc⟩ := hcell (Nat.succ_pos 8)
      obtain ⟨v0, -⟩ := hcc 0 (by simp)
      obtain ⟨v1, -⟩ := hcc 1 (by simp)
      obtain ⟨v2, -⟩ := hcc 2 (by simp)
      obtain ⟨v3, -⟩ := hcc 3 (by simp)
      obtain ⟨v4, -⟩ := hcc 4 (by simp)
      obtain ⟨v5, -⟩ := hcc 5 (by simp)
      obtain ⟨v6, -⟩ := hcc 6 (by simp)
      obtain ⟨v7, -⟩ := hcc 7 (by simp)
      obtain ⟨v8, -⟩ := hcc 8 (by simp)
      simp only [Prod.mk.injEq] at e0 e1 e2 e3 e4 e5 e6 e7 e8
      simp only [List.getElem_cons_zero, List.getElem_cons_succ, Nat.zero_mul] at v0 v1 v2 v3 v4 v5 v6 v7 v8
      rw [e0.1] at v0
      rw [e1.1] at v1
      rw [e2.1] at v2
      rw [e3.1] at v3
      rw [e4.1] at v4
      rw [e5.1] at v5
      rw [e6.1] at v6
      rw [e7.1] at v7
      rw [e8.1] at v8
      have b0 := nmB_two D 0
      have b1 := nmB_two D 2
      have b2 := nmB_four D 4
      have b3 := nmB_four D 8
      have b4 := nmB_one D 12
      have b5 := nmB_one D 13
      have b6 := nmB_two D 14
      have b7 := nmB_two D 16
      have b8 := nmB_two D 18
      have hEE : Hid (segE h D = if 4 * (nmB D 12 1 / 16) < 20 ∨ nmB D 12 1 % 16 ≠ 0 then 11 else if D.length < 4 * (nmB D 12 1 / 16) then 10 else if nmB D 16 2 ≠ sumV h D 16 then 12 else 0) := hide (by unfold segE tcpE; rw [HP.out, if_pos rfl, if_neg h8]; rfl)
      have hGS : Hid (∀ ao co ad cd, gotS h D ao co ad cd = ⟨6, nmB D 0 2, nmB D 2 2, nmB D 4 4, nmB D 8 4, nmB D 13 1, nmB D 14 2, nmB D 18 2, false, ao, 4 * (nmB D 12 1 / 16) - 20, co, ad, D.length - 4 * (nmB D 12 1 / 16), cd⟩) := hide (fun ao co ad cd => by unfold gotS; rw [HP.out]; rfl)
      have hHD : Hid (hdT D = 4 * (nmB D 12 1 / 16)) := hide rfl
      obtain ⟨n0, hn0⟩ : ∃ n, n = nmB D 0 2 := ⟨_, rfl⟩
      obtain ⟨n1, hn1⟩ : ∃ n, n = nmB D 2 2 := ⟨_, rfl⟩
      obtain ⟨n2, hn2⟩ : ∃ n, n = nmB D 4 4 := ⟨_, rfl⟩
      obtain ⟨n3, hn3⟩ : ∃ n, n = nmB D 8 4 := ⟨_, rfl⟩
      obtain ⟨n4, hn4⟩ : ∃ n, n = nmB D 12 1 := ⟨_, rfl⟩
      obtain ⟨n5, hn5⟩ : ∃ n, n = nmB D 13 1 := ⟨_, rfl⟩
      obtain ⟨n6, hn6⟩ : ∃ n, n = nmB D 14 2 := ⟨_, rfl⟩
      obtain ⟨n7, hn7⟩ : ∃ n, n = nmB D 16 2 := ⟨_, rfl⟩
      obtain ⟨n8, hn8⟩ : ∃ n, n = nmB D 18 2 := ⟨_, rfl⟩
      obtain ⟨S, hS⟩ : ∃ n, n = sumV h D 16 := ⟨_, rfl⟩
      have hS6 := sumV_le h D 16
      have KS := hide (fun (W1 : World) (b : Below W.heap.size W W1) => KS.out W1 b (by omega))
      rw [← hS] at KS hEE hS6
      rw [← hn0] at v0 b0 hGS
      rw [← hn1] at v1 b1 hGS
      rw [← hn2] at v2 b2 hGS
      rw [← hn3] at v3 b3 hGS
      rw [← hn4] at v4 b4 hEE hHD hGS
      rw [← hn5] at v5 b5 hGS
      rw [← hn6] at v6 b6 hGS
      rw [← hn7] at v7 b7 hEE
      rw [← hn8] at v8 b8 hGS
      have w20 : IntKind.i64.wrap (n0 : Int) = (n0 : Int) := IntWalk.i64_in _ (by omega)
      have w21 : IntKind.i64.wrap (n1 : Int) = (n1 : Int) := IntWalk.i64_in _ (by omega)
      have w25 : IntKind.i64.wrap (n5 : Int) = (n5 : Int) := IntWalk.i64_in _ (by omega)
      have w26 : IntKind.i64.wrap (n6 : Int) = (n6 : Int) := IntWalk.i64_in _ (by omega)
      have w28 : IntKind.i64.wrap (n8 : Int) = (n8 : Int) := IntWalk.i64_in _ (by omega)
      have w22 : IntKind.u32.wrap (n2 : Int) = (n2 : Int) := IntWalk.u32_in _ (by omega)
      have w23 : IntKind.u32.wrap (n3 : Int) = (n3 : Int) := IntWalk.u32_in _ (by omega)
      have w27 : IntKind.u16.wrap (n7 : Int) = (n7 : Int) := IntWalk.u16_in _ (by omega)
      obtain ⟨q, hq⟩ : ∃ q, q = n4 / 16 := ⟨_, rfl⟩
      obtain ⟨z, hzz⟩ : ∃ z, z = n4 % 16 := ⟨_, rfl⟩
      rw [← hq] at hHD hEE hGS
      rw [← hzz] at hEE
      have hdv : (n4 : Int) / 16 = (q : Int) := by omega
      have hwq : IntKind.i64.wrap (q : Int) = (q : Int) := IntWalk.i64_in _ (by omega)
      have hdm : 4 * (q : Int) = ((4 * q : Nat) : Int) := by omega
      have hand := and15 b4
      rw [← hzz] at hand
      obtain ⟨H, hH⟩ : ∃ H, H = 4 * q := ⟨_, rfl⟩
      rw [← hH] at hEE hHD hdm hGS
      have hgb := hgg
      have hH64 : H ≤ 60 := by omega
      have hwm : IntKind.i64.wrap (H : Int) = (H : Int) := IntWalk.i64_in _ (by omega)
      clear hRR hn0 e0 hn1 e1 hn2 e2 hn3 e3 hn4 e4 hn5 e5 hn6 e6 hn7 e7 hn8 e8 hS hcc hcell HOV HIT hgg HRUN KR O2 hq hzz hH
      rw [show ([i0, i1, i2, i3, i4, i5, i6, i7, i8] : List VItem).length = 9 from rfl, show (0 + tcpN.sum) = 20 from rfl]
      have GG : Hid (W.heap.size ≤ gg ∧ gg < w3.heap.size) := hide ⟨Nat.le_trans B2.out.size hgb, hgl⟩
      have HS : Hid (∀ W1, Below w3.heap.size w3 W1 → W1.cell? ⟨gg, 0, none⟩ = some (.int .u64 (n0 : Int)) ∧ W1.cell? ⟨gg, 2, none⟩ = some (.int .u64 (n1 : Int)) ∧ W1.cell? ⟨gg, 4, none⟩ = some (.int .u64 (n2 : Int)) ∧ W1.cell? ⟨gg, 6, none⟩ = some (.int .u64 (n3 : Int)) ∧ W1.cell? ⟨gg, 8, none⟩ = some (.int .u64 (n4 : Int)) ∧ W1.cell? ⟨gg, 10, none⟩ = some (.int .u64 (n5 : Int)) ∧ W1.cell? ⟨gg, 12, none⟩ = some (.int .u64 (n6 : Int)) ∧ W1.cell? ⟨gg, 14, none⟩ = some (.int .u64 (n7 : Int)) ∧ W1.cell? ⟨gg, 16, none⟩ = some (.int .u64 (n8 : Int))) := hide (fun W1 b => ⟨(b.cell (p := ⟨gg, 0, none⟩) GG.out.2).trans v0, (b.cell (p := ⟨gg, 2, none⟩) GG.out.2).trans v1, (b.cell (p := ⟨gg, 4, none⟩) GG.out.2).trans v2, (b.cell (p := ⟨gg, 6, none⟩) GG.out.2).trans v3, (b.cell (p := ⟨gg, 8, none⟩) GG.out.2).trans v4, (b.cell (p := ⟨gg, 10, none⟩) GG.out.2).trans v5, (b.cell (p := ⟨gg, 12, none⟩) GG.out.2).trans v6, (b.cell (p := ⟨gg, 14, none⟩) GG.out.2).trans v7, (b.cell (p := ⟨gg, 16, none⟩) GG.out.2).trans v8⟩)
      have q4d : w3.drew.cell? ⟨gg, 8, none⟩ = some (.int .u64 (n4 : Int)) := v4
      clear hgl hgb
      go_wp2_with fail
      go_region_held3 (fun w' => w'.cell? ⟨gg, 8, none⟩ = some (.int .u64 (n4 : Int)))
        (first | exact q4d | exact v4 | fail) (fail)
      all_goals (
        have z3d : w3.drew.heap[w.heap.size + 1]? = some (.cells Z 55 (0, 0)) := z3
        have BD3 : Hid (Below w.heap.size w w3.drew) := hide BB3.out.drew
        have BW3 : Hid (Below W.heap.size W w3.drew) := hide B3.out.drew
        obtain ⟨p3d, -⟩ := hkeep.out w3.drew BW3.out
        have e42d := HXC.out w3.drew BW3.out
        have HS4 : Hid (∀ W1, Below w3.drew.heap.size w3.drew W1 → W1.cell? ⟨gg, 0, none⟩ = some (.int .u64 (n0 : Int)) ∧ W1.cell? ⟨gg, 2, none⟩ = some (.int .u64 (n1 : Int)) ∧ W1.cell? ⟨gg, 4, none⟩ = some (.int .u64 (n2 : Int)) ∧ W1.cell? ⟨gg, 6, none⟩ = some (.int .u64 (n3 : Int)) ∧ W1.cell? ⟨gg, 8, none⟩ = some (.int .u64 (n4 : Int)) ∧ W1.cell? ⟨gg, 10, none⟩ = some (.int .u64 (n5 : Int)) ∧ W1.cell? ⟨gg, 12, none⟩ = some (.int .u64 (n6 : Int)) ∧ W1.cell? ⟨gg, 14, none⟩ = some (.int .u64 (n7 : Int)) ∧ W1.cell? ⟨gg, 16, none⟩ = some (.int .u64 (n8 : Int))) := hide (fun W1 b => HS.out W1 (below_undrew' b))
        clear v0 v1 v2 v3 v4 v5 v6 v7 v8 z3 BB3 B3 p3 q4d e42 HS GG
        generalize w3.drew = w4 at *
        by_cases hl20 : H < 20
        · have hE : Hid (segE h D = 11) := hide (by rw [hEE.out, if_pos (.inl hl20)])
          have hl' : (H : Int) < 20 := by omega
          go_wp2_with fail
          have hrow := setRow_heap w4 (w.heap.size + 1) Z Z _ _ z3d
          refine bodyPost_ret (results_cell_tmp (fn := Tryz.f59) Tryz.results59 _ _ (w.heap.size + 1) 55 Z (0, 0) _ rfl hrow Tryz.underlying55 rfl (by rw [hZs]; exact info_seg)) rfl ?_
          exact parS_err HZE.out hE.out (by decide) (below_setRow BD3.out (by omega) _)
        · have hl' : ¬ (H : Int) < 20 := by omega
          by_cases hz0 : z = 0
          · subst hz0
            by_cases hle : H ≤ D.length
            · have hle' : ¬ (D.length : Int) < (H : Int) := by omega
              have hH20 : 20 ≤ H := by omega
              have hEE : Hid (segE h D = if n7 ≠ S then 12 else 0) := hide (by rw [hEE.out, if_neg (by omega), if_neg (by omega)])
              have KB := hide (fun (W1 : World) (b : Below W.heap.size W W1) => KB.out W1 b)
              obtain ⟨-, -, -, -, -, -, -, t7, -⟩ := HS4.out w4 (Below.refl _ _)
              obtain ⟨-, -, -, -, -, -, -, t7d, -⟩ := HS4.out w4.drew (Below.refl _ _).drew
              have p3dd : w4.drew.heap[w.heap.size]? = some (.cells X 51 (0, 0)) := p3d
              have e42dd : w4.drew.cell? ⟨w.heap.size, 42, none⟩ = some (.slice h.ad D.length h.cd) := e42d
              go_wp2_with fail
              go_region_held3 (fun w' => w'.cell? ⟨gg, 14, none⟩ = some (.int .u64 (n7 : Int)) ∧ w'.heap[w.heap.size]? = some (.cells X 51 (0, 0)) ∧ w'.cell? ⟨w.heap.size, 42, none⟩ = some (.slice h.ad D.length h.cd))
                (first | exact ⟨t7, p3d, e42d⟩ | exact ⟨t7d, p3dd, e42dd⟩ | exact ⟨t75, p5, e425⟩ | fail)
                (first
                  | (go_at_call 34; (with_reducible refine (KS.out w4.drew BW3.out.drew).mono ?_); rintro e w5 ⟨rfl, b5⟩
                     have B45 : Hid (Below w4.heap.size w4 w5) := hide (below_undrew' b5)
                     obtain ⟨-, -, -, -, -, -, -, t75, -⟩ := HS4.out w5 B45.out
                     obtain ⟨p5, z5⟩ := hkeep.out w5 (BW3.out.trans (B45.out.mono BW3.out.size))
                     have e425 := HXC.out w5 (BW3.out.trans (B45.out.mono BW3.out.size))
                     clear b5)
                  | fail)
              all_goals (
                have BW5 : Hid (Below W.heap.size W w5) := hide (BW3.out.trans (B45.out.mono BW3.out.size))
                have B5 : Hid (Below w.heap.size w w5) := hide (BD3.out.trans (B45.out.mono BD3.out.size))
                clear t7 t7d p3d p3dd e42d e42dd t75 p5 e425
                by_cases hSE : n7 = S
                · have hSb : ((n7 : Int) != (S : Int)) = false := by simp; omega
                  have hE : Hid (segE h D = 0) := hide (by rw [hEE.out, if_neg (fun e => e hSE)])
                  have HS6 : Hid (∀ W1, Below w5.heap.size w5 W1 → W1.cell? ⟨gg, 0, none⟩ = some (.int .u64 (n0 : Int)) ∧ W1.cell? ⟨gg, 2, none⟩ = some (.int .u64 (n1 : Int)) ∧ W1.cell? ⟨gg, 4, none⟩ = some (.int .u64 (n2 : Int)) ∧ W1.cell? ⟨gg, 6, none⟩ = some (.int .u64 (n3 : Int)) ∧ W1.cell? ⟨gg, 10, none⟩ = some (.int .u64 (n5 : Int)) ∧ W1.cell? ⟨gg, 12, none⟩ = some (.int .u64 (n6 : Int)) ∧ W1.cell? ⟨gg, 16, none⟩ = some (.int .u64 (n8 : Int))) := hide (fun W1 b => by
                    obtain ⟨a0, a1, a2, a3, -, a5, a6, -, a8⟩ := HS4.out W1 (B45.out.trans (b.mono B45.out.size))
                    exact ⟨a0, a1, a2, a3, a5, a6, a8⟩)
                  have s0 := HS6.out w5 (Below.refl _ _)
                  have s1 : w5.drew.cell? ⟨gg, 0, none⟩ = some (.int .u64 (n0 : Int)) ∧ w5.drew.cell? ⟨gg, 2, none⟩ = some (.int .u64 (n1 : Int)) ∧ w5.drew.cell? ⟨gg, 4, none⟩ = some (.int .u64 (n2 : Int)) ∧ w5.drew.cell? ⟨gg, 6, none⟩ = some (.int .u64 (n3 : Int)) ∧ w5.drew.cell? ⟨gg, 10, none⟩ = some (.int .u64 (n5 : Int)) ∧ w5.drew.cell? ⟨gg, 12, none⟩ = some (.int .u64 (n6 : Int)) ∧ w5.drew.cell? ⟨gg, 16, none⟩ = some (.int .u64 (n8 : Int)) := HS6.out w5.drew (Below.refl _ _).drew
                  have hbu := built_tcp n0 n1 n2 n3 n5 n6 n8
                  obtain ⟨Y, hY⟩ : ∃ Y, Y = (sgL (tSg n0 n1 n2 n3 n5 n6 n8)).toArray := ⟨_, rfl⟩
                  have hY' : #[.int .i64 6, .int .i64 (n0 : Int), .int .i64 (n1 : Int), .int .u32 (n2 : Int), .int .u32 (n3 : Int), .int .i64 (n5 : Int), .int .i64 (n6 : Int), .int .i64 (n8 : Int), .bool false, .slice none 0 0, .slice none 0 0] = Y := by rw [hY]; rfl
                  rw [hY'] at hbu
                  have hYV : SgV Y (tSg n0 n1 n2 n3 n5 n6 n8) := ⟨hY, b2, b3⟩
                  have hYs : Y.size = 11 := hYV.size
                  have hYo : allOne Y = true := hYV.one
                  have HY := hide hYV
                  have HYE := hide hY
                  have BQ := hide (And.intro b2 b3)
                  clear hY hY' hYV
                  go_wp2_with fail
                  go_region_held3 (fun w' => w'.cell? ⟨gg, 0, none⟩ = some (.int .u64 (n0 : Int)) ∧ w'.cell? ⟨gg, 2, none⟩ = some (.int .u64 (n1 : Int)) ∧ w'.cell? ⟨gg, 4, none⟩ = some (.int .u64 (n2 : Int)) ∧ w'.cell? ⟨gg, 6, none⟩ = some (.int .u64 (n3 : Int)) ∧ w'.cell? ⟨gg, 10, none⟩ = some (.int .u64 (n5 : Int)) ∧ w'.cell? ⟨gg, 12, none⟩ = some (.int .u64 (n6 : Int)) ∧ w'.cell? ⟨gg, 16, none⟩ = some (.int .u64 (n8 : Int)))
                    (first | exact s0 | exact s1 | exact HS6.out _ ((Below.refl _ _).alloc (Nat.le_refl _) _) | exact HS6.out _ ((Below.refl _ _).drew.alloc (Nat.le_refl _) _) | exact HS6.out _ ((Below.refl _ _).alloc (Nat.le_refl _) _).drew | fail) (fail)
                  all_goals (
                    obtain ⟨G, hG⟩ : ∃ G, G = w5.heap.size := ⟨_, rfl⟩
                    obtain ⟨w6, hw6⟩ : ∃ w6, (w5.alloc (.cells Y 55)).drew = w6 := ⟨_, rfl⟩
                    have rY : w6.heap[G]? = some (.cells Y 55 (0, 0)) := by rw [← hw6, hG]; exact heap_alloc_new w5 _
                    have b6' : Below w5.heap.size w5 w6 := by rw [← hw6]; exact ((Below.refl _ _).alloc (Nat.le_refl _) _).drew
                    have C6 : Hid (Below W.heap.size W w6) := hide (BW5.out.trans (b6'.mono BW5.out.size))
                    have D6 : Hid (Below w.heap.size w w6) := hide (B5.out.trans (b6'.mono B5.out.size))
                    have GW : Hid (W.heap.size ≤ G ∧ G < w6.heap.size) := hide ⟨by rw [hG]; exact BW5.out.size, (Array.getElem?_eq_some_iff.1 rY).1⟩
                    have e6 := HXC.out w6 C6.out
                    rw [hw6, ← hG]
                    clear hw6 hG b6' HS6 s0 s1
                    go_wp2_with fail
                    refine (KB.out w6 C6.out H hH20 hle).mono ?_
                    rintro e w7 ⟨A1, c1, A2, c2, rfl, g1, g2, b7⟩
                    have rY7 := (b7.block G GW.out.2).trans rY
                    have k9 := (HY.out.cells rY7).c9
                    have k10 := (HY.out.cells rY7).c10
                    have f9 := frozen_of_row w7 G 9 _ _ rY7
                    have f10 := frozen_of_row w7 G 10 _ _ rY7
                    obtain ⟨-, z7⟩ := hkeep.out w7 (C6.out.trans (b7.mono C6.out.size))
                    have rYa := heap_setCell_same w7 G 9 _ _ (.slice A1 (H - 20) c1) rY7
                    have rY8 := heap_setCell_same (w7.setCell ⟨G, 9, none⟩ (.slice A1 (H - 20) c1)) G 10 _ _ (.slice A2 (D.length - H) c2) rYa
                    have h78 := grown_trans (grown_set w7 G 9 (.slice A1 (H - 20) c1)) (grown_set (w7.setCell ⟨G, 9, none⟩ (.slice A1 (H - 20) c1)) G 10 (.slice A2 (D.length - H) c2))
                    rw [HYE.out, sg_set9, sg_set10] at rY8
                    obtain ⟨Y8, hY8⟩ : ∃ Y8, Y8 = (sgL { tSg n0 n1 n2 n3 n5 n6 n8 with ao := A1, no := H - 20, co := c1, ad := A2, nd := D.length - H, cd := c2 }).toArray := ⟨_, rfl⟩
                    have rY8 : ((w7.setCell ⟨G, 9, none⟩ (.slice A1 (H - 20) c1)).setCell ⟨G, 10, none⟩ (.slice A2 (D.length - H) c2)).heap[G]? = some (.cells Y8 55 (0, 0)) := by rw [hY8]; exact rY8
                    have V8 : SgV Y8 (gotS h D A1 c1 A2 c2) := by rw [hGS.out]; exact ⟨hY8, BQ.out.1, BQ.out.2⟩
                    have Y8s : Y8.size = 11 := V8.size
                    have Y8o : allOne Y8 = true := V8.one
                    have Y80 : Y8.extract 0 11 = Y8 := V8.x0
                    have hzl := HZ.out
                    have z8 : ((w7.setCell ⟨G, 9, none⟩ (.slice A1 (H - 20) c1)).setCell ⟨G, 10, none⟩ (.slice A2 (D.length - H) c2)).heap[w.heap.size + 1]? = some (.cells Z 55 (0, 0)) := (h78.block (w.heap.size + 1) (Array.getElem?_eq_some_iff.1 z7).1 (by intro e; cases e; have := GW.out.1; omega)).trans z7
                    have HFIN : Hid (ParS w h D (.returned (.tuple #[.agg Y8, .int .i64 0])) (((w7.setCell ⟨G, 9, none⟩ (.slice A1 (H - 20) c1)).setCell ⟨G, 10, none⟩ (.slice A2 (D.length - H) c2)).setRow (w.heap.size + 1) Y8)) := hide (parS_tcp hE.out HP.out V8 D6.out (by rw [hHD.out]; exact g1) (by rw [hHD.out]; exact g2) b7 h78 GW.out.2 (by have := GW.out.1; omega) (by omega) (by have := GW.out; omega))
                    have k10' := (cell_of_row _ G 10 _ _ (0, 0) rYa).trans (by rw [HYE.out, sg_set9]; rfl : _ = some (Value.slice none 0 0))
                    obtain ⟨w8, hw8⟩ : ∃ w8, (w7.setCell ⟨G, 9, none⟩ (.slice A1 (H - 20) c1)).setCell ⟨G, 10, none⟩ (.slice A2 (D.length - H) c2) = w8 := ⟨_, rfl⟩
                    rw [hw8] at rY8 z8 HFIN
                    clear g1 g2 b7 rY rY7 rYa z7 h78 hY8 V8 e6 hzl
                    go_wp2_with fail
                    have hrow := setRow_heap w8 (w.heap.size + 1) Z Y8 _ _ z8
                    refine bodyPost_ret (results_cell_tmp (fn := Tryz.f59) Tryz.results59 _ _ (w.heap.size + 1) 55 Y8 (0, 0) _ rfl hrow Tryz.underlying55 rfl (by rw [Y8s]; exact info_seg)) rfl ?_
                    exact HFIN.out)
                · have hSb : ((n7 : Int) != (S : Int)) = true := by simp; omega
                  have hE : Hid (segE h D = 12) := hide (by rw [hEE.out, if_pos hSE])
                  go_wp2_with fail
                  have hrow := setRow_heap w5 (w.heap.size + 1) Z Z _ _ z5
                  refine bodyPost_ret (results_cell_tmp (fn := Tryz.f59) Tryz.results59 _ _ (w.heap.size + 1) 55 Z (0, 0) _ rfl hrow Tryz.underlying55 rfl (by rw [hZs]; exact info_seg)) rfl ?_
                  exact parS_err HZE.out hE.out (by decide) (below_setRow B5.out (by omega) _))
            · have hE : Hid (segE h D = 10) := hide (by rw [hEE.out, if_neg (by omega), if_pos (by omega)])
              have hle' : (D.length : Int) < (H : Int) := by omega
              go_wp2_with fail
              have hrow := setRow_heap w4 (w.heap.size + 1) Z Z _ _ z3d
              refine bodyPost_ret (results_cell_tmp (fn := Tryz.f59) Tryz.results59 _ _ (w.heap.size + 1) 55 Z (0, 0) _ rfl hrow Tryz.underlying55 rfl (by rw [hZs]; exact info_seg)) rfl ?_
              exact parS_err HZE.out hE.out (by decide) (below_setRow BD3.out (by omega) _)
          · have hE : Hid (segE h D = 11) := hide (by rw [hEE.out, if_pos (.inr hz0)])
            have hzb : ((z : Int) != 0) = true := by simp; omega
            go_wp2_with fail
            have hrow := setRow_heap w4 (w.heap.size + 1) Z Z _ _ z3d
            refine bodyPost_ret (results_cell_tmp (fn := Tryz.f59) Tryz.results59 _ _ (w.heap.size + 1) 55 Z (0, 0) _ rfl hrow Tryz.underlying55 rfl (by rw [hZs]; exact info_seg)) rfl ?_
            exact parS_err HZE.out hE.out (by decide) (below_setRow BD3.out (by omega) _)))
end Go.Proofs.YtihakjcccbionaaGreatDoor

end
section
/-
  The walk of segment.Parse.
-/
namespace Go.Proofs.YtihakjcccbionaaGreatDoor
open Go.RowKit
attribute [local go_sem ↓] exec_span exec_put exec_build heap_alloc_new heap_old heap_alloc_drew
attribute [local go_sem] spanQ_ptr spanC_some heap_of_drew heap_of_drewN rs_arr rs_ad rs_ip rs_rip rs_seg putAt_ptr putOk_ptr oldOk_some World.setRow_alloc_new setRow_drew
set_option maxRecDepth 100000
set_option linter.unusedVariables false
set_option linter.unusedSimpArgs false

theorem parS_row {w W w1 : World} {h : Ip} {D : List UInt8} {Y : Array Value} {z : Nat} (hbW : Below w.heap.size w W) (hz : w.heap.size ≤ z) (hzW : z < W.heap.size) (p : ParS W h D (.returned (.tuple #[.agg Y, .int .i64 (segE h D)])) w1) :
    ParS w h D (.returned (.tuple #[.agg Y, .int .i64 (segE h D)])) (w1.setRow z Y) := by
  obtain ⟨Y', e, b1, h0, h1⟩ := p
  cases e
  have n1 := hbW.size
  have n2 := b1.size
  have hs := setRow_grown w1 z Y
  refine ⟨_, rfl, below_setRow (hbW.trans (b1.mono n1)) hz _, h0, fun hE => ?_⟩
  obtain ⟨ao, co, ad, cd, V, g1, g2⟩ := h1 hE
  have key : ∀ (A : Option Addr) (c : Nat) (l : List UInt8), Gave W w1 A c l → Gave w (w1.setRow z Y) A c l := fun A c l ⟨y1, y2, y3, y4⟩ => by
    have q2 : Byt (w1.setRow z Y) w1.heap.size A l := y1.other (Nat.le_refl _) hs (fun a e => by have := y4 a e; omega)
    exact ⟨q2.more (by rw [size_setRow]; exact Nat.le_refl _), y2, y3, fun x e => Nat.le_trans n1 (y4 x e)⟩
  exact ⟨ao, co, ad, cd, V, key _ _ _ g1, key _ _ _ g2⟩
theorem ParS.val {w w1 : World} {h : Ip} {D : List UInt8} {e : Ending} (p : ParS w h D e w1) : ∃ Y, e = .returned (.tuple #[.agg Y, .int .i64 (segE h D)]) ∧ Y.size = 11 ∧ allOne Y = true ∧ Y.extract 0 11 = Y := by
  obtain ⟨Y, he, -, h0, h1⟩ := p
  by_cases hE : segE h D = 0
  · obtain ⟨ao, co, ad, cd, V, -, -⟩ := h1 hE
    exact ⟨Y, he, V.size, V.one, V.x0⟩
  · have V : SgV Y nSg := by rw [h0 hE]; exact nSg_ok
    exact ⟨Y, he, V.size, V.one, V.x0⟩

set_option maxHeartbeats 2000000 in
theorem parseS_any (w : World) (X : Array Value) (h : Ip) (x : IpV X h) (D : List UInt8) (hD : Byt w w.heap.size h.ad D) (hDl : D.length = h.nd) (hdc : h.nd ≤ h.cd) (hm : h.nd ≤ 140737488355328) :
    Calls Tryz.prog 24 #[.agg X] w fun e w' => ParS w h D e w' := by
  have hxs := x.size
  have hxr := x.x0
  obtain ⟨W, hW⟩ : ∃ W, (w.alloc (.cells X 51)).alloc (.cells (sgL nSg).toArray 55) = W := ⟨_, rfl⟩
  obtain ⟨r1, r2, hz, hbW⟩ := two_packs w X _ _ _ W hW
  obtain ⟨Z, hZ⟩ : ∃ Z, Z = (sgL nSg).toArray := ⟨_, rfl⟩
  have hbn := built_noneS
  rw [← hZ] at r2 hbn
  have hZs : Z.size = 11 := by rw [hZ]; rfl
  have hZo : allOne Z = true := by rw [hZ]; exact nSg_ok.one
  have HZE := hide hZ
  have c35 := (x.cells r1).c35
  have hDW : Byt W W.heap.size h.ad D := (hD.below hbW).more hbW.size
  have KT := hide (fun hp : h.p = 6 => parseT_any W X h x D hp hDW hDl hdc hm)
  have KU := hide (fun hp : h.p = 17 => parseU_any W X h x D hp hDW hDl hdc hm)
  have HF := hide (fun (Y : Array Value) (w1 : World) => parS_row (w := w) (W := W) (w1 := w1) (h := h) (D := D) (Y := Y) (z := w.heap.size + 1) hbW (by omega) (by omega))
  have HZK := hide (fun (w1 : World) (b : Below W.heap.size W w1) => ((b.block (w.heap.size + 1) (by omega)).trans r2 : w1.heap[w.heap.size + 1]? = some (.cells Z 55 (0, 0))))
  have HB := hide hbW
  have HW := hide hW
  have HZ := hide hz
  clear hbW hW hz hZ hD hDW x hDl hdc hm
  go_enter Tryz.func24, Tryz.ntmps24
  go_upto_region 1 with (fail)
  change Code.wp _ _ _ _ ((w.alloc (.cells X 51)).alloc (.cells (sgL nSg).toArray 55))
  rw [HW.out]
  obtain ⟨p, hp⟩ : ∃ p, p = h.p := ⟨_, rfl⟩
  rw [← hp] at c35
  by_cases h6 : p = 6
  · have hp6 : h.p = 6 := by rw [← hp]; exact h6
    subst h6
    have K := hide (KT.out hp6)
    clear KT KU hp hp6
    go_wp2_with fail
    refine K.out.mono ?_
    rintro e w1 hq
    obtain ⟨Y, rfl, hYs, hYo, hY0⟩ := hq.val
    have hb1 : Below W.heap.size W w1 := by obtain ⟨_, -, b, -⟩ := hq; exact b
    have z1 := HZK.out w1 hb1
    have HFF := hide (HF.out Y w1 hq)
    obtain ⟨E, hE⟩ : ∃ E, E = segE h D := ⟨_, rfl⟩
    rw [← hE] at HFF ⊢
    clear hq hb1 hE
    dsimp only
    go_wp2
    have hrow := setRow_heap w1 (w.heap.size + 1) Z Y _ _ z1
    refine bodyPost_ret (results_cell_tmp (fn := Tryz.f24) Tryz.results24 _ _ (w.heap.size + 1) 55 Y (0, 0) _ rfl hrow Tryz.underlying55 rfl (by rw [hYs]; exact info_seg)) rfl ?_
    exact HFF.out
  · have e6 : (p == 6) = false := by simpa using h6
    by_cases h17 : p = 17
    · have hp17 : h.p = 17 := by rw [← hp]; exact h17
      subst h17
      have K := hide (KU.out hp17)
      clear KT KU hp hp17
      go_wp2_with fail
      refine K.out.mono ?_
      rintro e w1 hq
      obtain ⟨Y, rfl, hYs, hYo, hY0⟩ := hq.val
      have hb1 : Below W.heap.size W w1 := by obtain ⟨_, -, b, -⟩ := hq; exact b
      have z1 := HZK.out w1 hb1
      have HFF := hide (HF.out Y w1 hq)
      obtain ⟨E, hE⟩ : ∃ E, E = segE h D := ⟨_, rfl⟩
      rw [← hE] at HFF ⊢
      clear hq hb1 hE
      dsimp only
      go_wp2
      have hrow := setRow_heap w1 (w.heap.size + 1) Z Y _ _ z1
      refine bodyPost_ret (results_cell_tmp (fn := Tryz.f24) Tryz.results24 _ _ (w.heap.size + 1) 55 Y (0, 0) _ rfl hrow Tryz.underlying55 rfl (by rw [hYs]; exact info_seg)) rfl ?_
      exact HFF.out
    · have hE : Hid (segE h D = 14) := hide (by unfold segE; rw [if_neg (by rw [← hp]; exact h6), if_neg (by rw [← hp]; exact h17)])
      have e17 : (p == 17) = false := by simpa using h17
      clear KT KU hp h6 h17
      go_wp2
      have hrow := setRow_heap W (w.heap.size + 1) Z Z _ _ r2
      refine bodyPost_ret (results_cell_tmp (fn := Tryz.f24) Tryz.results24 _ _ (w.heap.size + 1) 55 Z (0, 0) _ rfl hrow Tryz.underlying55 rfl (by rw [hZs]; exact info_seg)) rfl ?_
      exact parS_err HZE.out hE.out (by decide) (below_setRow HB.out (by omega) _)
end Go.Proofs.YtihakjcccbionaaGreatDoor

end
