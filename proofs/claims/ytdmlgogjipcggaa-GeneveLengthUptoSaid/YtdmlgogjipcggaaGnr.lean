/-
  geneve.Put in words of tunnels; known.
-/
import Derived.Test.YtdmlgogjipcggaaGnl
import Derived.Test.YtdmlgogjipcggaaGno
import Derived.Lib.SlBytesConst
namespace Go.Proofs.Ytdmlgogjipcggaa
open Go.RowKit
set_option maxRecDepth 100000
set_option linter.unusedVariables false
set_option linter.unusedSimpArgs false
attribute [local go_sem ↓] exec_span exec_put exec_build heap_alloc_new heap_old
attribute [local go_sem] spanQ_ptr spanC_some heap_of_drew heap_of_drewN putAt_ptr putOk_ptr oldOk_some World.setRow_alloc_new rs_tunG rs_rtunG rs_optG rs_roptG

/-- what a Put hands back. -/
def PutPG (w : World) (T : TuD) (e : Ending) (w' : World) : Prop := ∃ A' c', e = .returned (.tuple #[.slice A' (putD T).1.length c', .int .i64 ((putD T).2 : Int)]) ∧ OwnB w' w.heap.size (.slice A' (putD T).1.length c') (putD T).1 ∧ Below w.heap.size w w'
theorem putGG_any (w : World) (X : Array Value) (T : TuD) (h : TuG w X T) (hl : T.l.length ≤ 1048576) (hs : sizeD T.l ≤ 4611686018427387904) :
    Calls Try.prog 7 #[.agg X] w (PutPG w T) := by
  obtain ⟨A, c, l, I, k, rfl, hp⟩ := h
  have h1 := genPut_any w T.o T.p T.v A I c k l T.D hp.rd (by rw [hp.len]; exact hl) (by rw [sizeG_say, hp.say]; exact hs) (fun x hx => ⟨(hp.ob x hx).1, (hp.ob x hx).2.1⟩) hp.i hp.inn
  rw [putD_of T A I c k l hp.say] at h1
  exact h1
def kT : TuD := ⟨false, 2048, 5, [((258 : Int), (128 : Int), [0, 0, 0, 1])], [120]⟩
theorem kT_put : putD kT = ([2, 64, 8, 0, 0, 0, 5, 0, 1, 2, 128, 1, 0, 0, 0, 1, 120], 0) := by decide +kernel
theorem kT_par : parD [2, 64, 8, 0, 0, 0, 5, 0, 1, 2, 128, 1, 0, 0, 0, 1, 120] = (kT, 0) := by
  have h := parD_byt (T := kT) (by decide +kernel) (by decide +kernel)
  rwa [show bytD kT = [2, 64, 8, 0, 0, 0, 5, 0, 1, 2, 128, 1, 0, 0, 0, 1, 120] from by decide +kernel] at h
set_option maxHeartbeats 8000000 in
theorem known7_any (w : World) : Calls Try.prog 11 #[] w fun e w' => e = .returned (.bool true) ∧ Below w.heap.size w w' := by
  obtain ⟨W1, hW1, s1, z1, b1⟩ := alloc_tl w (.cells #[.int .u8 0, .int .u8 0, .int .u8 0, .int .u8 1] 5)
  obtain ⟨W2, hW2, s2, z2, b2⟩ := alloc_tl W1 (.cells #[.int .i64 258, .int .i64 128, .slice (some ⟨w.heap.size, 0, none⟩) 4 4] 60)
  have kc := Lib.run_convert_bytes_const (P := Try.prog) W2 23 5 #[.int .u8 120] 1 1 Try.underlying23 Try.underlying5
  obtain ⟨W3, hW3⟩ : ∃ W3, W2.alloc (.cells #[.int .u8 120] 5 (1, 2)) = W3 := ⟨_, rfl⟩
  have s3 : W3.heap[W2.heap.size]? = some (.cells #[.int .u8 120] 5 (1, 2)) := by rw [← hW3]; exact heap_alloc_new W2 _
  have z3 : W3.heap.size = W2.heap.size + 1 := by rw [← hW3]; simp
  have b3 : Below W2.heap.size W2 W3 := by rw [← hW3]; exact (Below.refl _ _).alloc (Nat.le_refl _) _
  rw [show (#[Value.int .u8 120] : Array Value).size = 1 from rfl, hW3] at kc
  obtain ⟨Y, hY⟩ : ∃ Y, Y = tunA false 2048 5 (some ⟨W1.heap.size, 0, none⟩) 1 1 (some ⟨W2.heap.size, 0, none⟩) 1 1 := ⟨_, rfl⟩
  have hbt : Try.prog.built 28 [(1, .int .i64 2048), (2, .int .i64 5), (3, .slice (some ⟨W1.heap.size, 0, none⟩) 1 1), (4, .slice (some ⟨W2.heap.size, 0, none⟩) 1 1)] = some Y := by rw [hY]; kernel_rfl
  have hbo : Try.prog.built 60 [(0, .int .i64 258), (1, .int .i64 128), (2, .slice (some ⟨w.heap.size, 0, none⟩) 4 4)] = some #[.int .i64 258, .int .i64 128, .slice (some ⟨w.heap.size, 0, none⟩) 4 4] := by kernel_rfl
  have hYs : Y.size = 5 := by rw [hY]; rfl
  have hYo : allOne Y = true := by rw [hY]; exact tunA_one _ _ _ _ _ _ _ _ _
  have hYx : Y.extract 0 5 = Y := by rw [hY]; rfl
  obtain ⟨W4, hW4, s4, z4, b4⟩ := alloc_tl W3 (.cells Y 28)
  have B4 : Below w.heap.size w W4 := b1.trans ((b2.trans ((b3.trans (b4.mono (by omega))).mono (by omega))).mono (by omega))
  have q1 : W4.heap[w.heap.size]? = some (.cells #[.int .u8 0, .int .u8 0, .int .u8 0, .int .u8 1] 5 (0, 0)) := (b4.block _ (by omega)).trans ((b3.block _ (by omega)).trans ((b2.block _ (by omega)).trans s1))
  have q2 := (b4.block W1.heap.size (by omega)).trans ((b3.block W1.heap.size (by omega)).trans s2)
  have q3 := (b4.block W2.heap.size (by omega)).trans s3
  have TG : TuG W4 Y kT := by
    refine ⟨some ⟨W1.heap.size, 0, none⟩, 1, [⟨258, 128, some ⟨w.heap.size, 0, none⟩, 4, [0, 0, 0, 1]⟩], some ⟨W2.heap.size, 0, none⟩, 1, hY, rfl, fun _ => ⟨_, 0, rfl, by omega, fun i hi => ?_⟩, fun x hx => ?_, Nat.le_refl _, fun _ => ⟨_, 0, rfl, by omega, fun i hi => ?_⟩, (fun e => by cases e), Nat.le_refl _⟩
    · obtain rfl : i = 0 := by simp at hi; omega
      refine ⟨(cell_of_row W4 _ _ _ _ (0, 0) q2).trans rfl, (cell_of_row W4 _ _ _ _ (0, 0) q2).trans rfl, (cell_of_row W4 _ _ _ _ (0, 0) q2).trans rfl⟩
    · rw [List.mem_singleton] at hx; subst hx
      refine ⟨fun _ => ⟨_, 0, rfl, by omega, fun i hi => ?_⟩, (fun e => by cases e), Nat.le_refl _⟩
      rw [cell_of_row W4 _ _ _ _ (0, 0) q1]
      match i, hi with
      | 0, _ => rfl
      | 1, _ => rfl
      | 2, _ => rfl
      | 3, _ => rfl
    · obtain rfl : i = 0 := by simp [kT] at hi; omega
      exact (cell_of_row W4 _ _ _ _ (1, 2) q3).trans rfl
  have HTG := hide TG
  have HB4 := hide B4
  have hWW : Hid (W3.alloc (.cells Y 28) = W4) := hide hW4
  obtain ⟨g4, hg4⟩ : ∃ g, g = W3.heap.size := ⟨_, rfl⟩
  have HG4 := hide (show g4 < W4.heap.size by omega)
  rw [← hg4] at s4
  have KP := hide (fun (W : World) (b : Below W4.heap.size W4 W) => putGG_any W Y kT (HTG.out.below b) (by decide) (by decide +kernel))
  clear TG B4 q1 q2 q3 s1 s2 s3 b1 b2 b3 b4 hY z1 z2 z3 z4 hW4
  go_enter Try.func11, Try.ntmps11
  go_upto_region 2 with (fail)
  rw [hWW.out, ← hg4]
  clear hg4 hWW hW1 hW2 hW3 kc hbt hbo
  go_wp2_with fail
  refine (KP.out W4 (Below.refl _ _)).mono ?_
  rintro e w5 ⟨A5, c5, rfl, o5, b5⟩
  rw [kT_put] at o5 ⊢
  obtain ⟨L, hL⟩ : ∃ L : List UInt8, L = [2, 64, 8, 0, 0, 0, 5, 0, 1, 2, 128, 1, 0, 0, 0, 1, 120] := ⟨_, rfl⟩
  have HL := hide hL
  simp only at o5 ⊢
  rw [← hL] at o5 ⊢
  have hll : L.length = 17 := by rw [hL]; rfl
  obtain ⟨A5', c5', e5, hlc, hby5, hn5, -⟩ := o5.shape
  cases e5
  have HBY := hide hby5
  have B5 := hide (HB4.out.trans (b5.mono HB4.out.size))
  have KQ := hide (genParse_any w5 A5 c5 L HBY.out (by omega))
  have HO5 := hide o5
  have hsL : (⟨L.toArray⟩ : ByteArray) = ⟨#[2, 64, 8, 0, 0, 0, 5, 0, 1, 2, 128, 1, 0, 0, 0, 1, 120]⟩ := by rw [hL]
  have HSL := hide hsL
  clear o5 hL hlc hby5 hn5 b5 s4 hsL KP hll
  (try dsimp only)
  go_wp2_with fail
  refine KQ.out.mono ?_
  rintro e w6 ⟨Y6, rfl, tg6, b6⟩
  have hpd : parD L = (kT, 0) := by rw [HL.out]; exact kT_par
  rw [hpd] at tg6 ⊢
  obtain ⟨A6, c6, l6, I6, k6, hY6, hp6⟩ := tg6
  have y6s : Y6.size = 5 := by rw [hY6]; rfl
  have y6o : allOne Y6 = true := by rw [hY6]; exact tunA_one _ _ _ _ _ _ _ _ _
  have HC6 := hide (fun (W : World) (g : Nat) (r : W.heap[g]? = some (.cells Y6 28 (0, 0))) => (by rw [hY6] at r; exact tunA_cells r : W.cell? ⟨g, 0, none⟩ = some (.bool false) ∧ W.cell? ⟨g, 1, none⟩ = some (.int .i64 2048) ∧ W.cell? ⟨g, 2, none⟩ = some (.int .i64 5) ∧ W.cell? ⟨g, 3, none⟩ = some (.slice A6 l6.length c6) ∧ W.cell? ⟨g, 4, none⟩ = some (.slice I6 1 k6)))
  have HP6 := hide hp6
  have B6 := hide (B5.out.trans (b6.mono B5.out.size))
  have HB6 := hide b6
  clear hpd hY6 hp6 b6 KQ
  (try dsimp only)
  go_upto_region 4 with (fail)
  obtain ⟨W7, hW7, r7, z7, b7⟩ := alloc_tl w6 (.cells Y6 28)
  rw [hW7]
  obtain ⟨-, -, d2, -, d4⟩ := HC6.out W7 _ r7
  have cv5 : (convert 23 9 (.slice A5 L.length c5)).run Try.prog W7 = .ok (.string ⟨L.toArray⟩) W7 := ((((HBY.out.below HB6.out).more HB6.out.size).below b7).more b7.size).cvG
  have cv6 : (convert 23 9 (.slice I6 1 k6)).run Try.prog W7 = .ok (.string ⟨#[120]⟩) W7 := ((HP6.out.i.below b7).more b7.size).cvG (l := [120])
  rw [HSL.out] at cv5
  have B7 := hide (B6.out.trans (b7.mono B6.out.size))
  clear hW7 r7 z7 b7
  go_wp2
  go_ret
  exact ⟨rfl, B7.out⟩
end Go.Proofs.Ytdmlgogjipcggaa
