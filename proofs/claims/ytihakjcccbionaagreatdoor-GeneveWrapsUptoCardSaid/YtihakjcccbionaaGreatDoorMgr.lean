import Derived.Test.YtihakjcccbionaaGreatDoorMgl
import Derived.Test.YtihakjcccbionaaGreatDoorQc
import Derived.Test.YtihakjcccbionaaGreatDoorMla
import Derived.Lib.SlBytesConst
section
/-
  The document's own Same of two tunnels that are alike.
-/
namespace Go.Proofs.YtihakjcccbionaaGreatDoor
open Go.RowKit
set_option maxRecDepth 100000
set_option linter.unusedVariables false
set_option linter.unusedSimpArgs false

theorem Byt.cvG {w : World} {A : Option Addr} {c : Nat} {l : List UInt8} (h : Byt w w.heap.size A l) : (convert 28 9 (.slice A l.length c)).run Tryz.prog w = .ok (.string ⟨l.toArray⟩) w := conv_any A c l w.heap.size w h
set_option maxHeartbeats 8000000 in
theorem refsameG_any (w : World) (X Y : Array Value) (T : TuD) (h : TuG w X T) (h' : TuG w Y T) (hl : T.l.length ≤ 1048576) :
    Calls Tryz.prog 13 #[.agg X, .agg Y] w fun e w' => e = .returned (.bool true) ∧ Below w.heap.size w w' := by
  obtain ⟨A0, c0, l0, I0, k0, hX, hp⟩ := h
  obtain ⟨A1, c1, l1, I1, k1, hY, hq⟩ := h'
  obtain ⟨W0, hW0, r0, z0, b0⟩ := alloc_tl w (.cells X 30)
  obtain ⟨W, hW, r1, z1, b1⟩ := alloc_tl W0 (.cells Y 30)
  rw [z0] at r1
  have r0' := (b1.block w.heap.size (by omega)).trans r0
  have hbW : Below w.heap.size w W := b0.trans (b1.mono (by omega))
  obtain ⟨n, hn⟩ : ∃ n, n = T.l.length := ⟨_, rfl⟩
  have hn0 : l0.length = n := by rw [hn]; exact hp.len
  have hn1 : l1.length = n := by rw [hn]; exact hq.len
  obtain ⟨m, hm⟩ : ∃ m, m = T.D.length := ⟨_, rfl⟩
  rw [hn0, ← hm] at hX
  rw [hn1, ← hm] at hY
  obtain ⟨ou, hto⟩ : ∃ x, x = T.o := ⟨_, rfl⟩
  obtain ⟨tp, htp⟩ : ∃ x, x = T.p := ⟨_, rfl⟩
  obtain ⟨tv, htv⟩ : ∃ x, x = T.v := ⟨_, rfl⟩
  rw [← hto, ← htp, ← htv] at hX hY
  have hn20 : n ≤ 1048576 := by rw [hn]; exact hl
  have HC := hide (fun (W1 : World) (b : Below W.heap.size W W1) => (⟨by have r := (b.block w.heap.size (by omega)).trans r0'; rw [hX] at r; exact tunA_cells r, by have r := (b.block (w.heap.size + 1) (by omega)).trans r1; rw [hY] at r; exact tunA_cells r⟩ : (W1.cell? ⟨w.heap.size, 0, none⟩ = some (.bool ou) ∧ W1.cell? ⟨w.heap.size, 1, none⟩ = some (.int .i64 tp) ∧ W1.cell? ⟨w.heap.size, 2, none⟩ = some (.int .i64 tv) ∧ W1.cell? ⟨w.heap.size, 3, none⟩ = some (.slice A0 n c0) ∧ W1.cell? ⟨w.heap.size, 4, none⟩ = some (.slice I0 m k0)) ∧ (W1.cell? ⟨w.heap.size + 1, 0, none⟩ = some (.bool ou) ∧ W1.cell? ⟨w.heap.size + 1, 1, none⟩ = some (.int .i64 tp) ∧ W1.cell? ⟨w.heap.size + 1, 2, none⟩ = some (.int .i64 tv) ∧ W1.cell? ⟨w.heap.size + 1, 3, none⟩ = some (.slice A1 n c1) ∧ W1.cell? ⟨w.heap.size + 1, 4, none⟩ = some (.slice I1 m k1))))
  have HP := hide (And.intro (hp.below hbW) (hq.below hbW))
  have HB := hide hbW
  have HW := hide (And.intro hW0 hW)
  have HN := hide (And.intro hn (And.intro hn0 hn1))
  have cv0 : (convert 28 9 (.slice I0 m k0)).run Tryz.prog W = .ok (.string ⟨T.D.toArray⟩) W := by rw [hm]; exact (hp.below hbW).i.cvG
  have cv1 : (convert 28 9 (.slice I1 m k1)).run Tryz.prog W = .ok (.string ⟨T.D.toArray⟩) W := by rw [hm]; exact (hq.below hbW).i.cvG
  have hneb : (ou != ou) = false := by simp
  have hnep : (tp != tp) = false := by simp
  have hnev : (tv != tv) = false := by simp
  have hnen : ((n : Int) != (n : Int)) = false := by simp
  obtain ⟨⟨a0, a1, a2, a3, a4⟩, ⟨d0, d1, d2, d3, d4⟩⟩ := HC.out W (Below.refl _ _)
  clear hp hq hX hY r0 r1 r0' z0 z1 b0 b1 hbW hn hn0 hn1 hm hto htp htv hl hW0 hW
  go_enter Tryz.func13, Tryz.ntmps13
  go_upto_region 1 with (fail)
  change Code.wp _ _ _ _ ((w.alloc (.cells X 30)).alloc (.cells Y 30))
  rw [HW.out.1, HW.out.2]
  go_wp2
  clear a0 a1 a2 a3 a4 d0 d1 d2 d3 d4 cv0 cv1
  go_loopw [5] (fun v wr => ∃ j : Nat, j ≤ n ∧ v = .int .i64 (j : Int) ∧ Hid (Below W.heap.size W wr)) (fun v _ => n - (intOf v).toNat)
  case atStart => exact ⟨0, by omega, rfl, hide (Below.refl _ _)⟩
  case round =>
    obtain ⟨j, hj, rfl, hb⟩ := hrel
    obtain ⟨⟨-, -, -, a3, -⟩, ⟨-, -, -, d3, -⟩⟩ := HC.out wr hb.out
    by_cases hlt : j < n
    · have hj0l : j < l0.length := by rw [HN.out.2.1]; exact hlt
      have hj1l : j < l1.length := by rw [HN.out.2.2]; exact hlt
      have hjT : j < T.l.length := by rw [← HN.out.1]; exact hlt
      obtain ⟨b, off, rfl, hbB, hc⟩ := HP.out.1.rd (by omega)
      obtain ⟨b', off', rfl, hbB', hc'⟩ := HP.out.2.rd (by omega)
      obtain ⟨e0, e1, e2⟩ := hc j hj0l
      obtain ⟨f0, f1, f2⟩ := hc' j hj1l
      have hs0 := say_get HP.out.1.say hj0l hjT
      have hs1 := say_get HP.out.2.say hj1l hjT
      have hq0 := (HP.out.1.ob _ (List.getElem_mem hj0l)).1
      have hq1 := (HP.out.2.ob _ (List.getElem_mem hj1l)).1
      have hss := hs0.symm.trans hs1
      simp only [Prod.mk.injEq] at hss
      obtain ⟨hs2, hs3, hs4⟩ := hss
      rw [← hs2] at f0
      rw [← hs3] at f1
      rw [← hs4] at f2 hq1
      obtain ⟨x, hx⟩ : ∃ x, x = l0[j] := ⟨_, rfl⟩
      obtain ⟨ya, hya⟩ : ∃ x, x = l1[j].a := ⟨_, rfl⟩
      obtain ⟨yk, hyk⟩ : ∃ x, x = l1[j].k := ⟨_, rfl⟩
      rw [← hx] at e0 e1 e2 f0 f1 f2 hq0 hq1
      rw [← hya, ← hyk] at f2
      rw [← hya] at hq1
      obtain ⟨xc, xt, xa, xk, xd⟩ := x
      simp only at e0 e1 e2 f0 f1 f2 hq0 hq1
      obtain ⟨xn, hxn⟩ : ∃ k, k = xd.length := ⟨_, rfl⟩
      rw [← hxn] at e2 f2
      have hb' := hb.out
      have ca : ∀ p : BW wr, p.w.cell? ⟨w.heap.size, 3, none⟩ = some (.slice (some ⟨b, off, none⟩) n c0) := fun p => p.cell a3
      have cb : ∀ p : BW wr, p.w.cell? ⟨w.heap.size + 1, 3, none⟩ = some (.slice (some ⟨b', off', none⟩) n c1) := fun p => p.cell d3
      have g0 : ∀ p : BW wr, p.w.cell? ⟨b, off + j * 3, none⟩ = some (.int .i64 xc) := fun p => p.cell ((hb'.cell (p := ⟨b, off + j * 3, none⟩) hbB).trans e0)
      have g1 : ∀ p : BW wr, p.w.cell? ⟨b, off + j * 3 + 1, none⟩ = some (.int .i64 xt) := fun p => p.cell ((hb'.cell (p := ⟨b, off + j * 3 + 1, none⟩) hbB).trans e1)
      have g2 : ∀ p : BW wr, p.w.cell? ⟨b, off + j * 3 + 2, none⟩ = some (.slice xa xn xk) := fun p => p.cell ((hb'.cell (p := ⟨b, off + j * 3 + 2, none⟩) hbB).trans e2)
      have h0 : ∀ p : BW wr, p.w.cell? ⟨b', off' + j * 3, none⟩ = some (.int .i64 xc) := fun p => p.cell ((hb'.cell (p := ⟨b', off' + j * 3, none⟩) hbB').trans f0)
      have h1 : ∀ p : BW wr, p.w.cell? ⟨b', off' + j * 3 + 1, none⟩ = some (.int .i64 xt) := fun p => p.cell ((hb'.cell (p := ⟨b', off' + j * 3 + 1, none⟩) hbB').trans f1)
      have h2 : ∀ p : BW wr, p.w.cell? ⟨b', off' + j * 3 + 2, none⟩ = some (.slice ya xn yk) := fun p => p.cell ((hb'.cell (p := ⟨b', off' + j * 3 + 2, none⟩) hbB').trans f2)
      have k0' : ∀ p : BW wr, (convert 28 9 (.slice xa xn xk)).run Tryz.prog p.w = .ok (.string ⟨xd.toArray⟩) p.w := fun p => by rw [hxn]; exact (((hq0.below hb').more hb'.size).below p.below |>.more p.below.size).cvG
      have k1' : ∀ p : BW wr, (convert 28 9 (.slice ya xn yk)).run Tryz.prog p.w = .ok (.string ⟨xd.toArray⟩) p.w := fun p => by rw [hxn]; exact (((hq1.below hb').more hb'.size).below p.below |>.more p.below.size).cvG
      have hcc : (xc != xc) = false := by simp
      have htt : (xt != xt) = false := by simp
      have hj1 : (j : Int) < (n : Int) := by omega
      have hj0 : (0 : Int) ≤ (j : Int) := by omega
      clear hc hc' e0 e1 e2 f0 f1 f2 hs0 hs1 hs2 hs3 hs4 hq0 hq1 hx hya hyk hxn hbB hbB' hj0l hj1l hjT d3 hb'
      go_wp2_with fail
      clear a3
      first | refine wp_region_belowS wr (Below.refl _ _) ?_ | refine wp_region_below wr (Below.refl _ _) (by kernel_rfl) (by kernel_rfl) ?_
      (try simp only [List.append_eq, List.cons_append, List.nil_append])
      repeat
        first
          | (go_big_quiet_step (fail))
      refine wpQuiet_nil ?_
      intro _ hw'
      obtain ⟨pq, hw''⟩ := hw'
      subst hw''
      have hb9 : Hid (Below W.heap.size W pq.w) := hide (hb.out.trans (pq.below.mono hb.out.size))
      clear ca cb g0 g1 g2 h0 h1 h2 k0' k1' hcc htt
      go_wp2
      go_roundw
      case rel => exact ⟨j + 1, by omega, by go_num, hb9⟩
      case measure => simp [intOf]; omega
    · have hjn : j = n := by omega
      subst hjn
      go_wp2
      go_ret
      exact ⟨rfl, HB.out.trans (hb.out.mono HB.out.size)⟩
end Go.Proofs.YtihakjcccbionaaGreatDoor

end
section
/-
  geneve.Put in words of tunnels; known.
-/
namespace Go.Proofs.YtihakjcccbionaaGreatDoor
open Go.RowKit
set_option maxRecDepth 100000
set_option linter.unusedVariables false
set_option linter.unusedSimpArgs false
attribute [local go_sem ↓] exec_span exec_put exec_build heap_alloc_new heap_old
attribute [local go_sem] spanQ_ptr spanC_some heap_of_drew heap_of_drewN putAt_ptr putOk_ptr oldOk_some World.setRow_alloc_new rs_tunG rs_rtunG rs_optG rs_roptG

/-- what a Put hands back. -/
def PutPG (w : World) (T : TuD) (e : Ending) (w' : World) : Prop := ∃ A' c', e = .returned (.tuple #[.slice A' (putD T).1.length c', .int .i64 ((putD T).2 : Int)]) ∧ OwnB w' w.heap.size (.slice A' (putD T).1.length c') (putD T).1 ∧ Below w.heap.size w w'
theorem putGG_any (w : World) (X : Array Value) (T : TuD) (h : TuG w X T) (hl : T.l.length ≤ 1048576) (hs : sizeD T.l ≤ 4611686018427387904) :
    Calls Tryz.prog 15 #[.agg X] w (PutPG w T) := by
  obtain ⟨A, c, l, I, k, rfl, hp⟩ := h
  have h1 := genPut_any w T.o T.p T.v A I c k l T.D hp.rd (by rw [hp.len]; exact hl) (by rw [sizeG_say, hp.say]; exact hs) (fun x hx => ⟨(hp.ob x hx).1, (hp.ob x hx).2.1⟩) hp.i hp.inn
  rw [putD_of T A I c k l hp.say] at h1
  exact h1
def kT : TuD := ⟨false, 2048, 5, [((258 : Int), (128 : Int), [0, 0, 0, 1])], [120]⟩
theorem kT_put : putD kT = ([2, 64, 8, 0, 0, 0, 5, 0, 1, 2, 128, 1, 0, 0, 0, 1, 120], 0) := by decide +kernel
theorem kT_par : parD [2, 64, 8, 0, 0, 0, 5, 0, 1, 2, 128, 1, 0, 0, 0, 1, 120] = (kT, 0) := by
  have h := parD_byt (T := kT) (by decide +kernel) (by decide +kernel)
  rwa [show bytD kT = [2, 64, 8, 0, 0, 0, 5, 0, 1, 2, 128, 1, 0, 0, 0, 1, 120] from by decide +kernel] at h
set_option maxHeartbeats 8000000 in
theorem known7_any (w : World) : Calls Tryz.prog 10 #[] w fun e w' => e = .returned (.bool true) ∧ Below w.heap.size w w' := by
  obtain ⟨W1, hW1, s1, z1, b1⟩ := alloc_tl w (.cells #[.int .u8 0, .int .u8 0, .int .u8 0, .int .u8 1] 5)
  obtain ⟨W2, hW2, s2, z2, b2⟩ := alloc_tl W1 (.cells #[.int .i64 258, .int .i64 128, .slice (some ⟨w.heap.size, 0, none⟩) 4 4] 60)
  have kc := Lib.run_convert_bytes_const (P := Tryz.prog) W2 28 5 #[.int .u8 120] 1 1 Tryz.underlying28 Tryz.underlying5
  obtain ⟨W3, hW3⟩ : ∃ W3, W2.alloc (.cells #[.int .u8 120] 5 (1, 2)) = W3 := ⟨_, rfl⟩
  have s3 : W3.heap[W2.heap.size]? = some (.cells #[.int .u8 120] 5 (1, 2)) := by rw [← hW3]; exact heap_alloc_new W2 _
  have z3 : W3.heap.size = W2.heap.size + 1 := by rw [← hW3]; simp
  have b3 : Below W2.heap.size W2 W3 := by rw [← hW3]; exact (Below.refl _ _).alloc (Nat.le_refl _) _
  rw [show (#[Value.int .u8 120] : Array Value).size = 1 from rfl, hW3] at kc
  obtain ⟨Y, hY⟩ : ∃ Y, Y = tunA false 2048 5 (some ⟨W1.heap.size, 0, none⟩) 1 1 (some ⟨W2.heap.size, 0, none⟩) 1 1 := ⟨_, rfl⟩
  have hbt : Tryz.prog.built 38 [(1, .int .i64 2048), (2, .int .i64 5), (3, .slice (some ⟨W1.heap.size, 0, none⟩) 1 1), (4, .slice (some ⟨W2.heap.size, 0, none⟩) 1 1)] = some Y := by rw [hY]; kernel_rfl
  have hbo : Tryz.prog.built 60 [(0, .int .i64 258), (1, .int .i64 128), (2, .slice (some ⟨w.heap.size, 0, none⟩) 4 4)] = some #[.int .i64 258, .int .i64 128, .slice (some ⟨w.heap.size, 0, none⟩) 4 4] := by kernel_rfl
  have hYs : Y.size = 5 := by rw [hY]; rfl
  have hYo : allOne Y = true := by rw [hY]; exact tunA_one _ _ _ _ _ _ _ _ _
  have hYx : Y.extract 0 5 = Y := by rw [hY]; rfl
  obtain ⟨W4, hW4, s4, z4, b4⟩ := alloc_tl W3 (.cells Y 38)
  have B4 : Below w.heap.size w W4 := b1.trans ((b2.trans ((b3.trans (b4.mono (by omega))).mono (by omega))).mono (by omega))
  have q1 : W4.heap[w.heap.size]? = some (.cells #[.int .u8 0, .int .u8 0, .int .u8 0, .int .u8 1] 5 (0, 0)) := (b4.block _ (by omega)).trans ((b3.block _ (by omega)).trans ((b2.block _ (by omega)).trans s1))
  have q2 := (b4.block W1.heap.size (by omega)).trans ((b3.block W1.heap.size (by omega)).trans s2)
  have q3 := (b4.block W2.heap.size (by omega)).trans s3
  have TG : TuG W4 Y kT := by
    refine ⟨some ⟨W1.heap.size, 0, none⟩, 1, [⟨258, 128, some ⟨w.heap.size, 0, none⟩, 4, [0, 0, 0, 1]⟩], some ⟨W2.heap.size, 0, none⟩, 1, hY, rfl, fun _ => ⟨_, 0, rfl, by omega, fun i hi => ?_⟩, fun x hx => ?_, Nat.le_refl _, fun _ => ⟨_, 0, rfl, by omega, fun i hi => ?_⟩, (fun e => by cases e), Nat.le_refl _⟩
    · obtain rfl : i = 0 := by simp at hi; omega
      refine ⟨(cell_of_row W4 _ _ _ _ (0, 0) q2).trans rfl, (cell_of_row W4 _ _ _ _ (0, 0) q2).trans rfl, (cell_of_row W4 _ _ _ _ (0, 0) q2).trans rfl⟩
    · rw [List.mem_singleton] at hx; subst hx
      refine ⟨fun _ => ⟨_, 0, rfl, by omega, fun i hi => ?_⟩, (fun e => by cases e), Nat.le_refl _⟩
      rw [cell_of_row W4 _ _ _ _ (0, 0) q1]
      match i, hi with
      | 0, _ => rfl
      | 1, _ => rfl
      | 2, _ => rfl
      | 3, _ => rfl
    · obtain rfl : i = 0 := by simp [kT] at hi; omega
      exact (cell_of_row W4 _ _ _ _ (1, 2) q3).trans rfl
  have HTG := hide TG
  have HB4 := hide B4
  have hWW : Hid (W3.alloc (.cells Y 38) = W4) := hide hW4
  obtain ⟨g4, hg4⟩ : ∃ g, g = W3.heap.size := ⟨_, rfl⟩
  have HG4 := hide (show g4 < W4.heap.size by omega)
  rw [← hg4] at s4
  have KP := hide (fun (W : World) (b : Below W4.heap.size W4 W) => putGG_any W Y kT (HTG.out.below b) (by decide) (by decide +kernel))
  clear TG B4 q1 q2 q3 s1 s2 s3 b1 b2 b3 b4 hY z1 z2 z3 z4 hW4
  go_enter Tryz.func10, Tryz.ntmps10
  go_upto_region 2 with (fail)
  rw [hWW.out, ← hg4]
  clear hg4 hWW hW1 hW2 hW3 kc hbt hbo
  go_wp2_with fail
  refine (KP.out W4 (Below.refl _ _)).mono ?_
  rintro e w5 ⟨A5, c5, rfl, o5, b5⟩
  rw [kT_put] at o5 ⊢
  obtain ⟨L, hL⟩ : ∃ L : List UInt8, L = [2, 64, 8, 0, 0, 0, 5, 0, 1, 2, 128, 1, 0, 0, 0, 1, 120] := ⟨_, rfl⟩
  have HL := hide hL
  simp only at o5 ⊢
  rw [← hL] at o5 ⊢
  have hll : L.length = 17 := by rw [hL]; rfl
  obtain ⟨A5', c5', e5, hlc, hby5, hn5, -⟩ := o5.shape
  cases e5
  have HBY := hide hby5
  have B5 := hide (HB4.out.trans (b5.mono HB4.out.size))
  have KQ := hide (genParse_any w5 A5 c5 L HBY.out (by omega))
  have HO5 := hide o5
  have hsL : (⟨L.toArray⟩ : ByteArray) = ⟨#[2, 64, 8, 0, 0, 0, 5, 0, 1, 2, 128, 1, 0, 0, 0, 1, 120]⟩ := by rw [hL]
  have HSL := hide hsL
  clear o5 hL hlc hby5 hn5 b5 s4 hsL KP hll
  (try dsimp only)
  go_wp2_with fail
  refine KQ.out.mono ?_
  rintro e w6 ⟨Y6, rfl, tg6, b6⟩
  have hpd : parD L = (kT, 0) := by rw [HL.out]; exact kT_par
  rw [hpd] at tg6 ⊢
  obtain ⟨A6, c6, l6, I6, k6, hY6, hp6⟩ := tg6
  have y6s : Y6.size = 5 := by rw [hY6]; rfl
  have y6o : allOne Y6 = true := by rw [hY6]; exact tunA_one _ _ _ _ _ _ _ _ _
  have HC6 := hide (fun (W : World) (g : Nat) (r : W.heap[g]? = some (.cells Y6 38 (0, 0))) => (by rw [hY6] at r; exact tunA_cells r : W.cell? ⟨g, 0, none⟩ = some (.bool false) ∧ W.cell? ⟨g, 1, none⟩ = some (.int .i64 2048) ∧ W.cell? ⟨g, 2, none⟩ = some (.int .i64 5) ∧ W.cell? ⟨g, 3, none⟩ = some (.slice A6 l6.length c6) ∧ W.cell? ⟨g, 4, none⟩ = some (.slice I6 1 k6)))
  have HP6 := hide hp6
  have B6 := hide (B5.out.trans (b6.mono B5.out.size))
  have HB6 := hide b6
  clear hpd hY6 hp6 b6 KQ
  (try dsimp only)
  go_upto_region 4 with (fail)
  obtain ⟨W7, hW7, r7, z7, b7⟩ := alloc_tl w6 (.cells Y6 38)
  rw [hW7]
  obtain ⟨-, -, d2, -, d4⟩ := HC6.out W7 _ r7
  have cv5 : (convert 28 9 (.slice A5 L.length c5)).run Tryz.prog W7 = .ok (.string ⟨L.toArray⟩) W7 := ((((HBY.out.below HB6.out).more HB6.out.size).below b7).more b7.size).cvG
  have cv6 : (convert 28 9 (.slice I6 1 k6)).run Tryz.prog W7 = .ok (.string ⟨#[120]⟩) W7 := ((HP6.out.i.below b7).more b7.size).cvG (l := [120])
  rw [HSL.out] at cv5
  have B7 := hide (B6.out.trans (b7.mono B6.out.size))
  clear hW7 r7 z7 b7
  go_wp2
  go_ret
  exact ⟨rfl, B7.out⟩
end Go.Proofs.YtihakjcccbionaaGreatDoor

end
