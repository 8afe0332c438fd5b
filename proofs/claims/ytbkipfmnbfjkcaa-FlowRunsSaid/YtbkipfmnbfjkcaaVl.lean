/-
  Flows: a run of packets.
-/
import Derived.Test.YtbkipfmnbfjkcaaVj
import Derived.Test.YtbkipfmnbfjkcaaVk
namespace Go.Proofs.Ytbkipfmnbfjkcaa
open Go.RowKit
set_option maxRecDepth 100000
set_option linter.unusedVariables false
set_option linter.unusedSimpArgs false
attribute [local go_sem ↓] exec_span exec_put exec_build heap_alloc_new heap_old
attribute [local go_sem] spanQ_ptr spanC_some heap_of_drew heap_of_drewN putAt_ptr putOk_ptr oldOk_some World.setRow_alloc_new rs_Flow rs_RFlow built_flow0 built_rflow0 built_flow2 built_flow3 built_rflow3 rs_Pkt rs_RPkt
/-- what comes of packets, one behind the other. -/
def runF (p : Int) : List (Int × Int) → Int × Flw → Int × (Flw × Int)
  | [], s => (s.1, (s.2, 0))
  | k :: t, s => if (nextF p s.2 k).2.2 = 0 then runF p t (s.1 + (nextF p s.2 k).1, (nextF p s.2 k).2.1) else if (nextF p s.2 k).2.2 = 5 then runF p t s else (0, (fl0, (nextF p s.2 k).2.2))
theorem runF_at {p : Int} {l : List (Int × Int)} {j : Nat} (h : j < l.length) (s : Int × Flw) : runF p (l.drop j) s = if (nextF p s.2 l[j]).2.2 = 0 then runF p (l.drop (j + 1)) (s.1 + (nextF p s.2 l[j]).1, (nextF p s.2 l[j]).2.1) else if (nextF p s.2 l[j]).2.2 = 5 then runF p (l.drop (j + 1)) s else (0, (fl0, (nextF p s.2 l[j]).2.2)) := by
  rw [List.drop_eq_getElem_cons h]; rfl
theorem nextF_began (p : Int) (f : Flw) (k : Int × Int) : (nextF p f k).1 = 0 ∨ (nextF p f k).1 = 1 := by
  unfold nextF; split <;> simp
set_option maxHeartbeats 16000000 in
theorem runF_any (w : World) (p : Int) (A : Option Addr) (n c : Nat) (l : List (Int × Int)) (hn : n = l.length) (hb : n ≤ 8796093022208) (hr : RowK 2 w A (l.map pkA)) :
    Calls Try.prog 24 #[.int .i64 p, .slice A n c] w (RetV w (nxE (runF p l (0, fl0)))) := by
  obtain ⟨R, hR⟩ : ∃ R, R = runF p l (0, fl0) := ⟨_, rfl⟩
  rw [← hR]
  have HR := hide hR
  have HN := hide hn
  have KR := hide hr
  have KX := hide (fun W p f k => nextF_any W p f k)
  have HA := hide (fun (j : Nat) (h : j < l.length) (s : Int × Flw) => runF_at (p := p) h s)
  have HG := hide nextF_began
  have C3 := cells3
  have C2 := cells2
  have X3 := ext3
  clear hR hn hr
  obtain ⟨w1, hw1, q1, s1, b1⟩ := alloc_nm w (.cells #[.int .i64 0, .int .i64 0, .int .i64 0] 24)
  have b12 := hide b1
  obtain ⟨w2, hw2, q2, s2, b2⟩ := alloc_nm w1 (.cells #[.int .i64 0, .int .i64 0, .int .i64 0] 24)
  have hS2 : w2.setRow w1.heap.size #[.int .i64 0, .int .i64 0, .int .i64 0] = w2 := by rw [← hw2, World.setRow_alloc_new]
  have q1' := keepB b2 q1
  have HB0 : Hid (Below w.heap.size w w2) := hide (b1.trans (b2.mono (by omega)))
  have HGE : Hid (w.heap.size ≤ w1.heap.size ∧ w.heap.size ≠ w1.heap.size) := hide ⟨by omega, by omega⟩
  have Q1 := hide q1'
  have Q2 := hide q2
  clear b1 b2 s1 s2 q1 q1'
  go_enter Try.func24, Try.ntmps24
  go_wp2
  obtain ⟨g, hg⟩ : ∃ g, g = w1.heap.size := ⟨_, rfl⟩
  rw [← hg] at Q2 HGE ⊢
  clear hw1 hw2 hS2 hg q2 b12
  go_loopw [7, 17] (fun u v wr => ∃ j : Nat, j ≤ n ∧ v = .int .i64 (j : Int) ∧ ∃ m f, u = .int .i64 m ∧ Hid (0 ≤ m ∧ m ≤ (j : Int)) ∧ Hid (runF p (l.drop j) (m, f) = R) ∧ Hid (wr.heap[g]? = some (.cells (flA f) 24 (0, 0))) ∧ Hid (wr.heap[w.heap.size]? = some (.cells #[.int .i64 0, .int .i64 0, .int .i64 0] 24 (0, 0))) ∧ Hid (Below w.heap.size w wr)) (fun _ v _ => n - (intOf v).toNat)
  case atStart => exact ⟨0, Nat.zero_le _, rfl, 0, fl0, rfl, hide ⟨by omega, by omega⟩, hide HR.out.symm, Q2, Q1, HB0⟩
  case round =>
    obtain ⟨j, hj, rfl, m, f, rfl, HM, HF, HQ2, HQ1, HBr⟩ := hrel
    by_cases hlt : j < n
    · have hlt' : j < l.length := by rw [← HN.out]; exact hlt
      obtain ⟨b, off, Y, t, fr, rfl, hbl, hY, hY1, hY2⟩ := (KR.out.below HBr.out) j (pkA l[j]) (by simp [hlt'])
      have HF2 := hide ((HA.out j hlt' (m, f)).symm.trans HF.out)
      have HG1 := hide (HG.out p f l[j])
      have KN := hide (fun W => KX.out W p f l[j])
      obtain ⟨⟨kf, kn⟩, hk⟩ : ∃ k, k = l[j] := ⟨_, rfl⟩
      rw [← hk] at hY2 HF2 HG1 KN
      unfold pkA at hY2
      dsimp only at hY2
      obtain ⟨⟨d, ⟨f', e⟩⟩, hN⟩ : ∃ N, N = nextF p f (kf, kn) := ⟨_, rfl⟩
      dsimp only at HF2
      rw [← hN] at HF2 HG1 KN
      dsimp only at HF2 HG1
      have hidx : decide ((j : Int) < (n : Int)) = true := by simpa using hlt
      have HLT := hide hlt
      have HBL := hide hbl
      have HNX : Hid (IntKind.i64.wrap (m + d) = m + d ∧ 0 ≤ m + d ∧ m + d ≤ ((j + 1 : Nat) : Int)) := hide (by
        have h1 := HM.out
        have h2 := HG1.out
        have h3 : (j : Int) < 8796093022208 := by omega
        rcases h2 with h2 | h2
        · rw [h2]; exact ⟨Go.IntWalk.i64_in _ ⟨by omega, by omega⟩, by omega, by omega⟩
        · rw [h2]; exact ⟨Go.IntWalk.i64_in _ ⟨by omega, by omega⟩, by omega, by omega⟩)
      have r_g := HQ2.out
      have r_r := HQ1.out
      have HB := HBr
      have a1 := flA_one f
      have x1 := flA_x f
      have z1 := flA_size f
      have a2 := flA_one f'
      have x2 := flA_x f'
      have z2 := flA_size f'
      have HI : Hid (flA fl0 = #[.int .i64 0, .int .i64 0, .int .i64 0]) := hide rfl
      obtain ⟨X, hX⟩ : ∃ X, X = flA f := ⟨_, rfl⟩
      obtain ⟨X', hX'⟩ : ∃ X', X' = flA f' := ⟨_, rfl⟩
      have HX := hide hX
      have HX' := hide hX'
      have hfg := HGE
      clear hN hk hlt' hbl HBr HQ1 HQ2 HG1
      unfold nxE flV pkA at KN
      dsimp only at KN
      rw [← hX] at r_g a1 x1 z1 KN
      rw [← hX'] at a2 x2 z2 KN
      clear hX hX'
      by_cases he : e = 0
      · subst he
        have HF3 := hide (by have := HF2.out; rw [if_pos rfl] at this; exact this)
        clear HF2
        have hLg : Hid (g < wr.heap.size) := hide ((Array.getElem?_eq_some_iff.1 r_g).1)
        obtain ⟨W3, hW3, r_k, z3, b3⟩ := alloc_nm wr (.cells #[.int .i64 kf, .int .i64 kn] 46)
        clear z3
        replace r_g := keepB b3 r_g
        replace r_r := keepB b3 r_r
        replace HB := hide (HB.out.trans (b3.mono HB.out.size))
        clear b3
        go_upto_region 5 with (fail)
        go_wp2_with fail
        go_at_call 48
        with_reducible refine (KN.out _).mono ?_
        rintro e W4 ⟨rfl, b4⟩
        replace r_g := keepB b4 r_g
        replace r_r := keepB b4 r_r
        replace r_k := keepB b4 r_k
        replace HB := hide (HB.out.trans (b4.mono HB.out.size))
        clear b4
        dsimp only
        obtain ⟨W5, hW5, r_n, z5, b5⟩ := alloc_nm W4 (.cells X' 24)
        clear z5
        replace r_g := keepB b5 r_g
        replace r_r := keepB b5 r_r
        replace r_k := keepB b5 r_k
        replace HB := hide (HB.out.trans (b5.mono HB.out.size))
        clear b5
        have HR2 := hide r_g
        have HR1 := hide r_r
        go_upto_region 9 with (fail)
        go_region_law (fail)
        all_goals
          go_wp2_with fail
          go_roundw
          case rel => exact ⟨j + 1, HLT.out, by go_num, m + d, f', by rw [HNX.out.1], hide HNX.out.2, HF3, hide (by rw [← HX'.out]; exact setRow_heap _ _ _ _ _ _ HR2.out), hide ((setRow_other _ _ _ _ hfg.out.2).trans HR1.out), hide (below_setRow (below_drewV HB.out) hfg.out.1 _)⟩
          case measure => simp [Go.RowKit.intOf]; have := HLT.out; omega
      · have he0 : (e == 0) = false := by simpa using he
        have HF3 := hide (by have := HF2.out; rw [if_neg he] at this; exact this)
        clear HF2
        by_cases he5 : e = 5
        · subst he5
          have HF4 := hide (by have := HF3.out; rw [if_pos rfl] at this; exact this)
          clear HF3
          have hLg : Hid (g < wr.heap.size) := hide ((Array.getElem?_eq_some_iff.1 r_g).1)
          obtain ⟨W3, hW3, r_k, z3, b3⟩ := alloc_nm wr (.cells #[.int .i64 kf, .int .i64 kn] 46)
          clear z3
          replace r_g := keepB b3 r_g
          replace r_r := keepB b3 r_r
          replace HB := hide (HB.out.trans (b3.mono HB.out.size))
          clear b3
          go_upto_region 5 with (fail)
          go_wp2_with fail
          go_at_call 48
          with_reducible refine (KN.out _).mono ?_
          rintro e W4 ⟨rfl, b4⟩
          replace r_g := keepB b4 r_g
          replace r_r := keepB b4 r_r
          replace r_k := keepB b4 r_k
          replace HB := hide (HB.out.trans (b4.mono HB.out.size))
          clear b4
          dsimp only
          obtain ⟨W5, hW5, r_n, z5, b5⟩ := alloc_nm W4 (.cells X' 24)
          clear z5
          replace r_g := keepB b5 r_g
          replace r_r := keepB b5 r_r
          replace r_k := keepB b5 r_k
          replace HB := hide (HB.out.trans (b5.mono HB.out.size))
          clear b5
          have HR2 := hide r_g
          have HR1 := hide r_r
          go_wp2_with fail
          go_roundw
          case rel => exact ⟨j + 1, HLT.out, by go_num, m, f, rfl, hide (by have := HM.out; omega), HF4, hide (by rw [← HX.out]; exact HR2.out), HR1, HB⟩
          case measure => simp [Go.RowKit.intOf]; have := HLT.out; omega
        · have he6 : (e == 5) = false := by simpa using he5
          have HF4 := hide (by have := HF3.out; rw [if_neg he5] at this; exact this)
          clear HF3
          have hLg : Hid (g < wr.heap.size) := hide ((Array.getElem?_eq_some_iff.1 r_g).1)
          obtain ⟨W3, hW3, r_k, z3, b3⟩ := alloc_nm wr (.cells #[.int .i64 kf, .int .i64 kn] 46)
          clear z3
          replace r_g := keepB b3 r_g
          replace r_r := keepB b3 r_r
          replace HB := hide (HB.out.trans (b3.mono HB.out.size))
          clear b3
          go_upto_region 5 with (fail)
          go_wp2_with fail
          go_at_call 48
          with_reducible refine (KN.out _).mono ?_
          rintro e W4 ⟨rfl, b4⟩
          replace r_g := keepB b4 r_g
          replace r_r := keepB b4 r_r
          replace r_k := keepB b4 r_k
          replace HB := hide (HB.out.trans (b4.mono HB.out.size))
          clear b4
          dsimp only
          obtain ⟨W5, hW5, r_n, z5, b5⟩ := alloc_nm W4 (.cells X' 24)
          clear z5
          replace r_g := keepB b5 r_g
          replace r_r := keepB b5 r_r
          replace r_k := keepB b5 r_k
          replace HB := hide (HB.out.trans (b5.mono HB.out.size))
          clear b5
          have HR1 := hide r_r
          go_wp2
          refine bodyPost_ret (results_tmp_cell_tmp (fn := Try.f24) Try.results24 _ _ w.heap.size 24 #[.int .i64 0, .int .i64 0, .int .i64 0] (0, 0) _ rfl (setRow_heap _ _ _ _ _ _ HR1.out) Try.underlying24 rfl info_flow) rfl ?_
          exact ⟨by rw [← HF4.out]; rfl, below_setRow HB.out (Nat.le_refl _) _⟩
    · obtain rfl : n = j := by omega
      have HFin : Hid (R = (m, (f, 0))) := hide (by
        have := HF.out
        rw [List.drop_of_length_le (by rw [← HN.out]; omega)] at this
        exact this.symm)
      have r_g := HQ2.out
      have r_r := HQ1.out
      have a1 := flA_one f
      have x1 := flA_x f
      have z1 := flA_size f
      have HIf : Hid ((Try.prog.info? 24).map (·.size) = some (flA f).size) := hide info_flow
      obtain ⟨X, hX⟩ : ∃ X, X = flA f := ⟨_, rfl⟩
      have HX := hide hX
      rw [← hX] at r_g a1 x1 z1 HIf
      have hidx : decide ((n : Int) < (n : Int)) = false := by simp
      clear hX HF
      go_upto_region 12 with (fail)
      go_region_law (fail)
      all_goals
        go_wp2
        refine bodyPost_ret (results_tmp_cell_tmp (fn := Try.f24) Try.results24 _ _ w.heap.size 24 X (0, 0) _ rfl (setRow_heap _ _ _ _ _ _ HQ1.out) Try.underlying24 rfl HIf.out) rfl ?_
        exact ⟨by rw [HFin.out, HX.out]; rfl, below_setRow (below_drewV HBr.out) (Nat.le_refl _) _⟩
end Go.Proofs.Ytbkipfmnbfjkcaa
