/-
  The document's own Same of two tunnels that are alike.
-/
import Derived.Test.YtdmlgogjipcggaaGni
import Derived.Test.YtdmlgogjipcggaaQc
import Derived.Test.YtdmlgogjipcggaaMla
namespace Go.Proofs.Ytdmlgogjipcggaa
open Go.RowKit
set_option maxRecDepth 100000
set_option linter.unusedVariables false
set_option linter.unusedSimpArgs false

theorem Byt.cvG {w : World} {A : Option Addr} {c : Nat} {l : List UInt8} (h : Byt w w.heap.size A l) : (convert 23 9 (.slice A l.length c)).run Try.prog w = .ok (.string ⟨l.toArray⟩) w := conv_any A c l w.heap.size w h
set_option maxHeartbeats 8000000 in
theorem refsameG_any (w : World) (X Y : Array Value) (T : TuD) (h : TuG w X T) (h' : TuG w Y T) (hl : T.l.length ≤ 1048576) :
    Calls Try.prog 9 #[.agg X, .agg Y] w fun e w' => e = .returned (.bool true) ∧ Below w.heap.size w w' := by
  obtain ⟨A0, c0, l0, I0, k0, hX, hp⟩ := h
  obtain ⟨A1, c1, l1, I1, k1, hY, hq⟩ := h'
  obtain ⟨W0, hW0, r0, z0, b0⟩ := alloc_tl w (.cells X 25)
  obtain ⟨W, hW, r1, z1, b1⟩ := alloc_tl W0 (.cells Y 25)
  rw [z0] at r1
  have r0' := (b1.block w.heap.size (by omega)).trans r0
  have hbW : Below w.heap.size w W := b0.trans (b1.mono (by omega))
  obtain ⟨n, hn⟩ : ∃ n, n = T.l.length := ⟨_, rfl⟩
  have hn0 : l0.length = n := by rw [hn]; exact hp.len
  have hn1 : l1.length = n := by rw [hn]; exact hq.len
  obtain ⟨m, hm⟩ : ∃ m, m = T.D.length := ⟨_, rfl⟩
  rw [hn0, ← hm] at hX
  rw [hn1, ← hm] at hY
  obtain ⟨ou, hto⟩ : ∃ x, x = T.o := ⟨_, rfl⟩
  obtain ⟨tp, htp⟩ : ∃ x, x = T.p := ⟨_, rfl⟩
  obtain ⟨tv, htv⟩ : ∃ x, x = T.v := ⟨_, rfl⟩
  rw [← hto, ← htp, ← htv] at hX hY
  have hn20 : n ≤ 1048576 := by rw [hn]; exact hl
  have HC := hide (fun (W1 : World) (b : Below W.heap.size W W1) => (⟨by have r := (b.block w.heap.size (by omega)).trans r0'; rw [hX] at r; exact tunA_cells r, by have r := (b.block (w.heap.size + 1) (by omega)).trans r1; rw [hY] at r; exact tunA_cells r⟩ : (W1.cell? ⟨w.heap.size, 0, none⟩ = some (.bool ou) ∧ W1.cell? ⟨w.heap.size, 1, none⟩ = some (.int .i64 tp) ∧ W1.cell? ⟨w.heap.size, 2, none⟩ = some (.int .i64 tv) ∧ W1.cell? ⟨w.heap.size, 3, none⟩ = some (.slice A0 n c0) ∧ W1.cell? ⟨w.heap.size, 4, none⟩ = some (.slice I0 m k0)) ∧ (W1.cell? ⟨w.heap.size + 1, 0, none⟩ = some (.bool ou) ∧ W1.cell? ⟨w.heap.size + 1, 1, none⟩ = some (.int .i64 tp) ∧ W1.cell? ⟨w.heap.size + 1, 2, none⟩ = some (.int .i64 tv) ∧ W1.cell? ⟨w.heap.size + 1, 3, none⟩ = some (.slice A1 n c1) ∧ W1.cell? ⟨w.heap.size + 1, 4, none⟩ = some (.slice I1 m k1))))
  have HP := hide (And.intro (hp.below hbW) (hq.below hbW))
  have HB := hide hbW
  have HW := hide (And.intro hW0 hW)
  have HN := hide (And.intro hn (And.intro hn0 hn1))
  have cv0 : (convert 23 9 (.slice I0 m k0)).run Try.prog W = .ok (.string ⟨T.D.toArray⟩) W := by rw [hm]; exact (hp.below hbW).i.cvG
  have cv1 : (convert 23 9 (.slice I1 m k1)).run Try.prog W = .ok (.string ⟨T.D.toArray⟩) W := by rw [hm]; exact (hq.below hbW).i.cvG
  have hneb : (ou != ou) = false := by simp
  have hnep : (tp != tp) = false := by simp
  have hnev : (tv != tv) = false := by simp
  have hnen : ((n : Int) != (n : Int)) = false := by simp
  obtain ⟨⟨a0, a1, a2, a3, a4⟩, ⟨d0, d1, d2, d3, d4⟩⟩ := HC.out W (Below.refl _ _)
  clear hp hq hX hY r0 r1 r0' z0 z1 b0 b1 hbW hn hn0 hn1 hm hto htp htv hl hW0 hW
  go_enter Try.func9, Try.ntmps9
  go_upto_region 1 with (fail)
  change Code.wp _ _ _ _ ((w.alloc (.cells X 25)).alloc (.cells Y 25))
  rw [HW.out.1, HW.out.2]
  go_wp2
  clear a0 a1 a2 a3 a4 d0 d1 d2 d3 d4 cv0 cv1
  go_loopw [5] (fun v wr => ∃ j : Nat, j ≤ n ∧ v = .int .i64 (j : Int) ∧ Hid (Below W.heap.size W wr)) (fun v _ => n - (intOf v).toNat)
  case atStart => exact ⟨0, by omega, rfl, hide (Below.refl _ _)⟩
  case round =>
    obtain ⟨j, hj, rfl, hb⟩ := hrel
    obtain ⟨⟨-, -, -, a3, -⟩, ⟨-, -, -, d3, -⟩⟩ := HC.out wr hb.out
    by_cases hlt : j < n
    · have hj0l : j < l0.length := by rw [HN.out.2.1]; exact hlt
      have hj1l : j < l1.length := by rw [HN.out.2.2]; exact hlt
      have hjT : j < T.l.length := by rw [← HN.out.1]; exact hlt
      obtain ⟨b, off, rfl, hbB, hc⟩ := HP.out.1.rd (by omega)
      obtain ⟨b', off', rfl, hbB', hc'⟩ := HP.out.2.rd (by omega)
      obtain ⟨e0, e1, e2⟩ := hc j hj0l
      obtain ⟨f0, f1, f2⟩ := hc' j hj1l
      have hs0 := say_get HP.out.1.say hj0l hjT
      have hs1 := say_get HP.out.2.say hj1l hjT
      have hq0 := (HP.out.1.ob _ (List.getElem_mem hj0l)).1
      have hq1 := (HP.out.2.ob _ (List.getElem_mem hj1l)).1
      have hss := hs0.symm.trans hs1
      simp only [Prod.mk.injEq] at hss
      obtain ⟨hs2, hs3, hs4⟩ := hss
      rw [← hs2] at f0
      rw [← hs3] at f1
      rw [← hs4] at f2 hq1
      obtain ⟨x, hx⟩ : ∃ x, x = l0[j] := ⟨_, rfl⟩
      obtain ⟨ya, hya⟩ : ∃ x, x = l1[j].a := ⟨_, rfl⟩
      obtain ⟨yk, hyk⟩ : ∃ x, x = l1[j].k := ⟨_, rfl⟩
      rw [← hx] at e0 e1 e2 f0 f1 f2 hq0 hq1
      rw [← hya, ← hyk] at f2
      rw [← hya] at hq1
      obtain ⟨xc, xt, xa, xk, xd⟩ := x
      simp only at e0 e1 e2 f0 f1 f2 hq0 hq1
      obtain ⟨xn, hxn⟩ : ∃ k, k = xd.length := ⟨_, rfl⟩
      rw [← hxn] at e2 f2
      have hb' := hb.out
      have ca : ∀ p : BW wr, p.w.cell? ⟨w.heap.size, 3, none⟩ = some (.slice (some ⟨b, off, none⟩) n c0) := fun p => p.cell a3
      have cb : ∀ p : BW wr, p.w.cell? ⟨w.heap.size + 1, 3, none⟩ = some (.slice (some ⟨b', off', none⟩) n c1) := fun p => p.cell d3
      have g0 : ∀ p : BW wr, p.w.cell? ⟨b, off + j * 3, none⟩ = some (.int .i64 xc) := fun p => p.cell ((hb'.cell (p := ⟨b, off + j * 3, none⟩) hbB).trans e0)
      have g1 : ∀ p : BW wr, p.w.cell? ⟨b, off + j * 3 + 1, none⟩ = some (.int .i64 xt) := fun p => p.cell ((hb'.cell (p := ⟨b, off + j * 3 + 1, none⟩) hbB).trans e1)
      have g2 : ∀ p : BW wr, p.w.cell? ⟨b, off + j * 3 + 2, none⟩ = some (.slice xa xn xk) := fun p => p.cell ((hb'.cell (p := ⟨b, off + j * 3 + 2, none⟩) hbB).trans e2)
      have h0 : ∀ p : BW wr, p.w.cell? ⟨b', off' + j * 3, none⟩ = some (.int .i64 xc) := fun p => p.cell ((hb'.cell (p := ⟨b', off' + j * 3, none⟩) hbB').trans f0)
      have h1 : ∀ p : BW wr, p.w.cell? ⟨b', off' + j * 3 + 1, none⟩ = some (.int .i64 xt) := fun p => p.cell ((hb'.cell (p := ⟨b', off' + j * 3 + 1, none⟩) hbB').trans f1)
      have h2 : ∀ p : BW wr, p.w.cell? ⟨b', off' + j * 3 + 2, none⟩ = some (.slice ya xn yk) := fun p => p.cell ((hb'.cell (p := ⟨b', off' + j * 3 + 2, none⟩) hbB').trans f2)
      have k0' : ∀ p : BW wr, (convert 23 9 (.slice xa xn xk)).run Try.prog p.w = .ok (.string ⟨xd.toArray⟩) p.w := fun p => by rw [hxn]; exact (((hq0.below hb').more hb'.size).below p.below |>.more p.below.size).cvG
      have k1' : ∀ p : BW wr, (convert 23 9 (.slice ya xn yk)).run Try.prog p.w = .ok (.string ⟨xd.toArray⟩) p.w := fun p => by rw [hxn]; exact (((hq1.below hb').more hb'.size).below p.below |>.more p.below.size).cvG
      have hcc : (xc != xc) = false := by simp
      have htt : (xt != xt) = false := by simp
      have hj1 : (j : Int) < (n : Int) := by omega
      have hj0 : (0 : Int) ≤ (j : Int) := by omega
      clear hc hc' e0 e1 e2 f0 f1 f2 hs0 hs1 hs2 hs3 hs4 hq0 hq1 hx hya hyk hxn hbB hbB' hj0l hj1l hjT d3 hb'
      go_wp2_with fail
      clear a3
      first | refine wp_region_belowS wr (Below.refl _ _) ?_ | refine wp_region_below wr (Below.refl _ _) (by kernel_rfl) (by kernel_rfl) ?_
      (try simp only [List.append_eq, List.cons_append, List.nil_append])
      repeat
        first
          | (go_big_quiet_step (fail))
      refine wpQuiet_nil ?_
      intro _ hw'
      obtain ⟨pq, hw''⟩ := hw'
      subst hw''
      have hb9 : Hid (Below W.heap.size W pq.w) := hide (hb.out.trans (pq.below.mono hb.out.size))
      clear ca cb g0 g1 g2 h0 h1 h2 k0' k1' hcc htt
      go_wp2
      go_roundw
      case rel => exact ⟨j + 1, by omega, by go_num, hb9⟩
      case measure => simp [intOf]; omega
    · have hjn : j = n := by omega
      subst hjn
      go_wp2
      go_ret
      exact ⟨rfl, HB.out.trans (hb.out.mono HB.out.size)⟩
end Go.Proofs.Ytdmlgogjipcggaa
