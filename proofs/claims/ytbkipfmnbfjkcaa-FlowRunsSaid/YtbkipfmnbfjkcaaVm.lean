/-
  Flows as the document says: a run of packets.
-/
import Derived.Test.YtbkipfmnbfjkcaaVl
namespace Go.Proofs.Ytbkipfmnbfjkcaa
open Go.RowKit
set_option maxRecDepth 100000
set_option linter.unusedVariables false
set_option linter.unusedSimpArgs false
attribute [local go_sem ↓] exec_span exec_put exec_build heap_alloc_new heap_old
attribute [local go_sem] spanQ_ptr spanC_some heap_of_drew heap_of_drewN putAt_ptr putOk_ptr oldOk_some World.setRow_alloc_new rs_Flow rs_RFlow built_flow0 built_rflow0 built_flow2 built_flow3 built_rflow3 rs_Pkt rs_RPkt
theorem step_not5 {f : Flw} {fl now : Int} (h : liveB f now = true) : (stepF f fl now).2 ≠ 5 := by
  unfold stepF
  split
  · simp
  split
  · simp
  rw [if_neg (by rw [h]; simp)]
  simp
theorem runF_live {p : Int} {l : List (Int × Int)} {j : Nat} (h : j < l.length) (m : Int) (f : Flw) (hl : liveB f l[j].2 = true) : runF p (l.drop j) (m, f) = if (stepF f l[j].1 l[j].2).2 = 0 then runF p (l.drop (j + 1)) (m, (stepF f l[j].1 l[j].2).1) else (0, (fl0, (stepF f l[j].1 l[j].2).2)) := by
  have h5 := step_not5 (fl := l[j].1) hl
  have e : nextF p f l[j] = (0, stepF f l[j].1 l[j].2) := by unfold nextF; rw [if_pos hl]
  rw [runF_at h]
  dsimp only
  rw [e]
  dsimp only
  by_cases h0 : (stepF f l[j].1 l[j].2).2 = 0
  · rw [if_pos h0, if_pos h0, Int.add_zero]
  · rw [if_neg h0, if_neg h5, if_neg h0]
theorem runF_dead {p : Int} {l : List (Int × Int)} {j : Nat} (h : j < l.length) (m : Int) (f : Flw) (hl : liveB f l[j].2 = false) : runF p (l.drop j) (m, f) = if (beginF p l[j].1 l[j].2).2 = 0 then runF p (l.drop (j + 1)) (m + 1, (beginF p l[j].1 l[j].2).1) else if (beginF p l[j].1 l[j].2).2 = 5 then runF p (l.drop (j + 1)) (m, f) else (0, (fl0, (beginF p l[j].1 l[j].2).2)) := by
  have e : nextF p f l[j] = (1, beginF p l[j].1 l[j].2) := by unfold nextF; rw [if_neg (by rw [hl]; simp)]
  rw [runF_at h]
  dsimp only
  rw [e]
set_option maxHeartbeats 16000000 in
theorem runR_any (w : World) (p : Int) (A : Option Addr) (n c : Nat) (l : List (Int × Int)) (hn : n = l.length) (hb : n ≤ 8796093022208) (hr : RowK 2 w A (l.map pkA)) (hw : ∀ k ∈ l, k.2 ≤ 9223372036854775807) :
    Calls Try.prog 25 #[.int .i64 p, .slice A n c] w (RetV w (nxE (runF p l (0, fl0)))) := by
  obtain ⟨R, hR⟩ : ∃ R, R = runF p l (0, fl0) := ⟨_, rfl⟩
  rw [← hR]
  have HR := hide hR
  have HN := hide hn
  have KR := hide hr
  have HWK := hide hw
  have HAL := hide (fun (j : Nat) (h : j < l.length) m f hl => runF_live (p := p) h m f hl)
  have HAD := hide (fun (j : Nat) (h : j < l.length) m f hl => runF_dead (p := p) h m f hl)
  have C3 := cells3
  have C2 := cells2
  have X3 := ext3
  have X2 := ext2
  clear hR hn hr hw
  obtain ⟨w1, hw1, q1, s1, b1⟩ := alloc_nm w (.cells #[.int .i64 0, .int .i64 0, .int .i64 0] 23)
  obtain ⟨w2, hw2, q2, s2, b2⟩ := alloc_nm w1 (.cells #[.int .i64 0, .int .i64 0, .int .i64 0] 23)
  have q1' := keepB b2 q1
  have HB0 : Hid (Below w.heap.size w w2) := hide (b1.trans (b2.mono (by omega)))
  have HGE : Hid (w.heap.size ≤ w1.heap.size ∧ w.heap.size ≠ w1.heap.size) := hide ⟨by omega, by omega⟩
  have Q1 := hide q1'
  have Q2 := hide q2
  clear b1 b2 s1 s2 q1 q1'
  go_enter Try.func25, Try.ntmps25
  go_wp2
  obtain ⟨g, hg⟩ : ∃ g, g = w1.heap.size := ⟨_, rfl⟩
  rw [← hg] at Q2 HGE ⊢
  clear hw1 hw2 hg q2
  go_loopw [7, 9] (fun u v wr => ∃ j : Nat, j ≤ n ∧ v = .int .i64 (j : Int) ∧ ∃ m f, u = .int .i64 m ∧ Hid (0 ≤ m ∧ m ≤ (j : Int)) ∧ Hid (runF p (l.drop j) (m, f) = R) ∧ Hid (wr.heap[g]? = some (.cells (flA f) 23 (0, 0))) ∧ Hid (wr.heap[w.heap.size]? = some (.cells #[.int .i64 0, .int .i64 0, .int .i64 0] 23 (0, 0))) ∧ Hid (Below w.heap.size w wr)) (fun _ v _ => n - (intOf v).toNat)
  case atStart => exact ⟨0, Nat.zero_le _, rfl, 0, fl0, rfl, hide ⟨by omega, by omega⟩, hide HR.out.symm, Q2, Q1, HB0⟩
  case round =>
    obtain ⟨j, hj, rfl, m, f, rfl, HM, HF, HQ2, HQ1, HBr⟩ := hrel
    by_cases hlt : j < n
    · have hlt' : j < l.length := by rw [← HN.out]; exact hlt
      obtain ⟨b, off, Y, t, fr, rfl, hbl, hY, hY1, hY2⟩ := (KR.out.below HBr.out) j (pkA l[j]) (by simp [hlt'])
      have HFL := hide (fun hl => (HAL.out j hlt' m f hl).symm.trans HF.out)
      have HFD := hide (fun hl => (HAD.out j hlt' m f hl).symm.trans HF.out)
      have HKN := hide (HWK.out l[j] (List.getElem_mem hlt'))
      obtain ⟨⟨kf, kn⟩, hk⟩ : ∃ k, k = l[j] := ⟨_, rfl⟩
      rw [← hk] at hY2 HFL HFD HKN
      unfold pkA at hY2
      dsimp only at hY2 HFL HFD HKN
      have KL := hide (fun W => liveR_any W f kn HKN.out)
      have KS := hide (fun W => stepR_any W f kf kn HKN.out)
      have KB := hide (fun W => beginR_any W p kf kn)
      obtain ⟨lb, hlb⟩ : ∃ x, x = liveB f kn := ⟨_, rfl⟩
      obtain ⟨⟨FS, eS⟩, hS⟩ : ∃ x, x = stepF f kf kn := ⟨_, rfl⟩
      obtain ⟨⟨FB, eB⟩, hB⟩ : ∃ x, x = beginF p kf kn := ⟨_, rfl⟩
      rw [← hlb] at KL HFL HFD
      rw [← hS] at KS HFL
      rw [← hB] at KB HFD
      dsimp only at HFL HFD
      have hidx : decide ((j : Int) < (n : Int)) = true := by simpa using hlt
      have HLT := hide hlt
      have HNW : Hid (wrap64 (m + 1) = m + 1) := hide (by have h1 := HM.out; exact wr64_inV _ (by omega) (by omega))
      have HNX : Hid (IntKind.i64.wrap (m + 1) = m + 1 ∧ 0 ≤ m + 1 ∧ m + 1 ≤ ((j + 1 : Nat) : Int)) := hide (by
        have h1 := HM.out
        have h3 : (j : Int) < 8796093022208 := by omega
        exact ⟨Go.IntWalk.i64_in _ ⟨by omega, by omega⟩, by omega, by omega⟩)
      have r_g := HQ2.out
      have r_r := HQ1.out
      have HB := HBr
      have a1 := flA_one f
      have x1 := flA_x f
      have z1 := flA_size f
      have hfg := HGE
      clear hlb hS hB hk hlt' hbl HBr HQ1 HQ2
      unfold flE at KS KB
      unfold flV at KL KS KB
      dsimp only at KL KS KB
      obtain ⟨X, hX⟩ : ∃ X, X = flA f := ⟨_, rfl⟩
      have HX := hide hX
      rw [← hX] at r_g a1 x1 z1 KL KS
      clear hX
      cases lb
      · have HF2 := hide (HFD.out rfl)
        clear HFL HFD KS
        by_cases he : eB = 0
        · subst he
          have HF3 := hide (by have := HF2.out; rw [if_pos rfl] at this; exact this)
          clear HF2
          obtain ⟨W3, hW3, r_k, z3, b3⟩ := alloc_nm wr (.cells #[.int .i64 kf, .int .i64 kn] 45)
          clear z3
          replace r_g := keepB b3 r_g
          replace r_r := keepB b3 r_r
          replace HB := hide (HB.out.trans (b3.mono HB.out.size))
          clear b3
          have k0 := (cell_of_row W3 _ 0 _ _ (0, 0) r_k).trans (show (#[Value.int .i64 kf, .int .i64 kn] : Array Value)[0]? = some (.int .i64 kf) from rfl)
          have k1 := (cell_of_row W3 _ 1 _ _ (0, 0) r_k).trans (show (#[Value.int .i64 kf, .int .i64 kn] : Array Value)[1]? = some (.int .i64 kn) from rfl)
          go_upto_region 7 with (fail)
          go_wp2_with fail
          go_at_call 19
          with_reducible refine (KL.out _).mono ?_
          rintro e W4 ⟨rfl, b4⟩
          replace r_g := keepB b4 r_g
          replace r_r := keepB b4 r_r
          replace r_k := keepB b4 r_k
          replace HB := hide (HB.out.trans (b4.mono HB.out.size))
          clear b4
          dsimp only
          clear k0 k1
          have k0 := (cell_of_row W4 _ 0 _ _ (0, 0) r_k).trans (show (#[Value.int .i64 kf, .int .i64 kn] : Array Value)[0]? = some (.int .i64 kf) from rfl)
          have k1 := (cell_of_row W4 _ 1 _ _ (0, 0) r_k).trans (show (#[Value.int .i64 kf, .int .i64 kn] : Array Value)[1]? = some (.int .i64 kn) from rfl)
          go_wp2_with fail
          have a2 := flA_one FB
          have x2 := flA_x FB
          have z2 := flA_size FB
          obtain ⟨X', hX'⟩ : ∃ X', X' = flA FB := ⟨_, rfl⟩
          have HX' := hide hX'
          rw [← hX'] at a2 x2 z2 KB
          clear hX'
          go_at_call 13
          with_reducible refine (KB.out _).mono ?_
          rintro e W5 ⟨rfl, b5⟩
          replace r_g := keepB b5 r_g
          replace r_r := keepB b5 r_r
          replace r_k := keepB b5 r_k
          replace HB := hide (HB.out.trans (b5.mono HB.out.size))
          clear b5
          dsimp only
          obtain ⟨W6, hW6, r_n, z6, b6⟩ := alloc_nm W5 (.cells X' 23)
          clear z6
          replace r_g := keepB b6 r_g
          replace r_r := keepB b6 r_r
          replace r_k := keepB b6 r_k
          replace HB := hide (HB.out.trans (b6.mono HB.out.size))
          clear b6
          have HR2 := hide r_g
          have HR1 := hide r_r
          go_wp2_with fail
          go_roundw
          case rel => exact ⟨j + 1, HLT.out, by go_num, m + 1, FB, by rw [HNW.out], hide HNX.out.2, HF3, hide (by rw [← HX'.out]; exact setRow_heap _ _ _ _ _ _ HR2.out), hide ((setRow_other _ _ _ _ hfg.out.2).trans HR1.out), hide (below_setRow HB.out hfg.out.1 _)⟩
          case measure => simp [Go.RowKit.intOf]; have := HLT.out; omega
        · have he0 : (eB == 0) = false := by simpa using he
          have he1 : (eB != 0) = true := by simpa using he
          have HF3 := hide (by have := HF2.out; rw [if_neg he] at this; exact this)
          clear HF2
          by_cases he5 : eB = 5
          · subst he5
            have HF4 := hide (by have := HF3.out; rw [if_pos rfl] at this; exact this)
            clear HF3
            obtain ⟨W3, hW3, r_k, z3, b3⟩ := alloc_nm wr (.cells #[.int .i64 kf, .int .i64 kn] 45)
            clear z3
            replace r_g := keepB b3 r_g
            replace r_r := keepB b3 r_r
            replace HB := hide (HB.out.trans (b3.mono HB.out.size))
            clear b3
            have k0 := (cell_of_row W3 _ 0 _ _ (0, 0) r_k).trans (show (#[Value.int .i64 kf, .int .i64 kn] : Array Value)[0]? = some (.int .i64 kf) from rfl)
            have k1 := (cell_of_row W3 _ 1 _ _ (0, 0) r_k).trans (show (#[Value.int .i64 kf, .int .i64 kn] : Array Value)[1]? = some (.int .i64 kn) from rfl)
            go_upto_region 7 with (fail)
            go_wp2_with fail
            go_at_call 19
            with_reducible refine (KL.out _).mono ?_
            rintro e W4 ⟨rfl, b4⟩
            replace r_g := keepB b4 r_g
            replace r_r := keepB b4 r_r
            replace r_k := keepB b4 r_k
            replace HB := hide (HB.out.trans (b4.mono HB.out.size))
            clear b4
            dsimp only
            clear k0 k1
            have k0 := (cell_of_row W4 _ 0 _ _ (0, 0) r_k).trans (show (#[Value.int .i64 kf, .int .i64 kn] : Array Value)[0]? = some (.int .i64 kf) from rfl)
            have k1 := (cell_of_row W4 _ 1 _ _ (0, 0) r_k).trans (show (#[Value.int .i64 kf, .int .i64 kn] : Array Value)[1]? = some (.int .i64 kn) from rfl)
            go_wp2_with fail
            have a2 := flA_one FB
            have x2 := flA_x FB
            have z2 := flA_size FB
            obtain ⟨X', hX'⟩ : ∃ X', X' = flA FB := ⟨_, rfl⟩
            have HX' := hide hX'
            rw [← hX'] at a2 x2 z2 KB
            clear hX'
            go_at_call 13
            with_reducible refine (KB.out _).mono ?_
            rintro e W5 ⟨rfl, b5⟩
            replace r_g := keepB b5 r_g
            replace r_r := keepB b5 r_r
            replace r_k := keepB b5 r_k
            replace HB := hide (HB.out.trans (b5.mono HB.out.size))
            clear b5
            dsimp only
            obtain ⟨W6, hW6, r_n, z6, b6⟩ := alloc_nm W5 (.cells X' 23)
            clear z6
            replace r_g := keepB b6 r_g
            replace r_r := keepB b6 r_r
            replace r_k := keepB b6 r_k
            replace HB := hide (HB.out.trans (b6.mono HB.out.size))
            clear b6
            have HR2 := hide r_g
            have HR1 := hide r_r
            go_wp2_with fail
            go_roundw
            case rel => exact ⟨j + 1, HLT.out, by go_num, m, f, rfl, hide (by have := HM.out; omega), HF4, hide (by rw [← HX.out]; exact HR2.out), HR1, HB⟩
            case measure => simp [Go.RowKit.intOf]; have := HLT.out; omega
          · have he6 : (eB != 5) = true := by simpa using he5
            have HF4 := hide (by have := HF3.out; rw [if_neg he5] at this; exact this)
            clear HF3
            obtain ⟨W3, hW3, r_k, z3, b3⟩ := alloc_nm wr (.cells #[.int .i64 kf, .int .i64 kn] 45)
            clear z3
            replace r_g := keepB b3 r_g
            replace r_r := keepB b3 r_r
            replace HB := hide (HB.out.trans (b3.mono HB.out.size))
            clear b3
            have k0 := (cell_of_row W3 _ 0 _ _ (0, 0) r_k).trans (show (#[Value.int .i64 kf, .int .i64 kn] : Array Value)[0]? = some (.int .i64 kf) from rfl)
            have k1 := (cell_of_row W3 _ 1 _ _ (0, 0) r_k).trans (show (#[Value.int .i64 kf, .int .i64 kn] : Array Value)[1]? = some (.int .i64 kn) from rfl)
            go_upto_region 7 with (fail)
            go_wp2_with fail
            go_at_call 19
            with_reducible refine (KL.out _).mono ?_
            rintro e W4 ⟨rfl, b4⟩
            replace r_g := keepB b4 r_g
            replace r_r := keepB b4 r_r
            replace r_k := keepB b4 r_k
            replace HB := hide (HB.out.trans (b4.mono HB.out.size))
            clear b4
            dsimp only
            clear k0 k1
            have k0 := (cell_of_row W4 _ 0 _ _ (0, 0) r_k).trans (show (#[Value.int .i64 kf, .int .i64 kn] : Array Value)[0]? = some (.int .i64 kf) from rfl)
            have k1 := (cell_of_row W4 _ 1 _ _ (0, 0) r_k).trans (show (#[Value.int .i64 kf, .int .i64 kn] : Array Value)[1]? = some (.int .i64 kn) from rfl)
            go_wp2_with fail
            have a2 := flA_one FB
            have x2 := flA_x FB
            have z2 := flA_size FB
            obtain ⟨X', hX'⟩ : ∃ X', X' = flA FB := ⟨_, rfl⟩
            have HX' := hide hX'
            rw [← hX'] at a2 x2 z2 KB
            clear hX'
            go_at_call 13
            with_reducible refine (KB.out _).mono ?_
            rintro e W5 ⟨rfl, b5⟩
            replace r_g := keepB b5 r_g
            replace r_r := keepB b5 r_r
            replace r_k := keepB b5 r_k
            replace HB := hide (HB.out.trans (b5.mono HB.out.size))
            clear b5
            dsimp only
            obtain ⟨W6, hW6, r_n, z6, b6⟩ := alloc_nm W5 (.cells X' 23)
            clear z6
            replace r_g := keepB b6 r_g
            replace r_r := keepB b6 r_r
            replace r_k := keepB b6 r_k
            replace HB := hide (HB.out.trans (b6.mono HB.out.size))
            clear b6
            have HR1 := hide r_r
            go_wp2
            refine bodyPost_ret (results_tmp_cell_tmp (fn := Try.f25) Try.results25 _ _ w.heap.size 23 #[.int .i64 0, .int .i64 0, .int .i64 0] (0, 0) _ rfl (setRow_heap _ _ _ _ _ _ HR1.out) Try.underlying23 rfl info_rflow) rfl ?_
            exact ⟨by rw [← HF4.out]; rfl, below_setRow HB.out (Nat.le_refl _) _⟩
      · have HF2 := hide (HFL.out rfl)
        clear HFL HFD KB
        by_cases he : eS = 0
        · subst he
          have HF3 := hide (by have := HF2.out; rw [if_pos rfl] at this; exact this)
          clear HF2
          obtain ⟨W3, hW3, r_k, z3, b3⟩ := alloc_nm wr (.cells #[.int .i64 kf, .int .i64 kn] 45)
          clear z3
          replace r_g := keepB b3 r_g
          replace r_r := keepB b3 r_r
          replace HB := hide (HB.out.trans (b3.mono HB.out.size))
          clear b3
          have k0 := (cell_of_row W3 _ 0 _ _ (0, 0) r_k).trans (show (#[Value.int .i64 kf, .int .i64 kn] : Array Value)[0]? = some (.int .i64 kf) from rfl)
          have k1 := (cell_of_row W3 _ 1 _ _ (0, 0) r_k).trans (show (#[Value.int .i64 kf, .int .i64 kn] : Array Value)[1]? = some (.int .i64 kn) from rfl)
          go_upto_region 7 with (fail)
          go_wp2_with fail
          go_at_call 19
          with_reducible refine (KL.out _).mono ?_
          rintro e W4 ⟨rfl, b4⟩
          replace r_g := keepB b4 r_g
          replace r_r := keepB b4 r_r
          replace r_k := keepB b4 r_k
          replace HB := hide (HB.out.trans (b4.mono HB.out.size))
          clear b4
          dsimp only
          clear k0 k1
          have k0 := (cell_of_row W4 _ 0 _ _ (0, 0) r_k).trans (show (#[Value.int .i64 kf, .int .i64 kn] : Array Value)[0]? = some (.int .i64 kf) from rfl)
          have k1 := (cell_of_row W4 _ 1 _ _ (0, 0) r_k).trans (show (#[Value.int .i64 kf, .int .i64 kn] : Array Value)[1]? = some (.int .i64 kn) from rfl)
          go_wp2_with fail
          have a2 := flA_one FS
          have x2 := flA_x FS
          have z2 := flA_size FS
          obtain ⟨X', hX'⟩ : ∃ X', X' = flA FS := ⟨_, rfl⟩
          have HX' := hide hX'
          rw [← hX'] at a2 x2 z2 KS
          clear hX'
          go_at_call 15
          with_reducible refine (KS.out _).mono ?_
          rintro e W5 ⟨rfl, b5⟩
          replace r_g := keepB b5 r_g
          replace r_r := keepB b5 r_r
          replace r_k := keepB b5 r_k
          replace HB := hide (HB.out.trans (b5.mono HB.out.size))
          clear b5
          dsimp only
          obtain ⟨W6, hW6, r_n, z6, b6⟩ := alloc_nm W5 (.cells X' 23)
          clear z6
          replace r_g := keepB b6 r_g
          replace r_r := keepB b6 r_r
          replace r_k := keepB b6 r_k
          replace HB := hide (HB.out.trans (b6.mono HB.out.size))
          clear b6
          have HR2 := hide r_g
          have HR1 := hide r_r
          go_wp2_with fail
          go_roundw
          case rel => exact ⟨j + 1, HLT.out, by go_num, m, FS, rfl, hide (by have := HM.out; omega), HF3, hide (by rw [← HX'.out]; exact setRow_heap _ _ _ _ _ _ HR2.out), hide ((setRow_other _ _ _ _ hfg.out.2).trans HR1.out), hide (below_setRow HB.out hfg.out.1 _)⟩
          case measure => simp [Go.RowKit.intOf]; have := HLT.out; omega
        · have he1 : (eS != 0) = true := by simpa using he
          have HF3 := hide (by have := HF2.out; rw [if_neg he] at this; exact this)
          clear HF2
          obtain ⟨W3, hW3, r_k, z3, b3⟩ := alloc_nm wr (.cells #[.int .i64 kf, .int .i64 kn] 45)
          clear z3
          replace r_g := keepB b3 r_g
          replace r_r := keepB b3 r_r
          replace HB := hide (HB.out.trans (b3.mono HB.out.size))
          clear b3
          have k0 := (cell_of_row W3 _ 0 _ _ (0, 0) r_k).trans (show (#[Value.int .i64 kf, .int .i64 kn] : Array Value)[0]? = some (.int .i64 kf) from rfl)
          have k1 := (cell_of_row W3 _ 1 _ _ (0, 0) r_k).trans (show (#[Value.int .i64 kf, .int .i64 kn] : Array Value)[1]? = some (.int .i64 kn) from rfl)
          go_upto_region 7 with (fail)
          go_wp2_with fail
          go_at_call 19
          with_reducible refine (KL.out _).mono ?_
          rintro e W4 ⟨rfl, b4⟩
          replace r_g := keepB b4 r_g
          replace r_r := keepB b4 r_r
          replace r_k := keepB b4 r_k
          replace HB := hide (HB.out.trans (b4.mono HB.out.size))
          clear b4
          dsimp only
          clear k0 k1
          have k0 := (cell_of_row W4 _ 0 _ _ (0, 0) r_k).trans (show (#[Value.int .i64 kf, .int .i64 kn] : Array Value)[0]? = some (.int .i64 kf) from rfl)
          have k1 := (cell_of_row W4 _ 1 _ _ (0, 0) r_k).trans (show (#[Value.int .i64 kf, .int .i64 kn] : Array Value)[1]? = some (.int .i64 kn) from rfl)
          go_wp2_with fail
          have a2 := flA_one FS
          have x2 := flA_x FS
          have z2 := flA_size FS
          obtain ⟨X', hX'⟩ : ∃ X', X' = flA FS := ⟨_, rfl⟩
          have HX' := hide hX'
          rw [← hX'] at a2 x2 z2 KS
          clear hX'
          go_at_call 15
          with_reducible refine (KS.out _).mono ?_
          rintro e W5 ⟨rfl, b5⟩
          replace r_g := keepB b5 r_g
          replace r_r := keepB b5 r_r
          replace r_k := keepB b5 r_k
          replace HB := hide (HB.out.trans (b5.mono HB.out.size))
          clear b5
          dsimp only
          obtain ⟨W6, hW6, r_n, z6, b6⟩ := alloc_nm W5 (.cells X' 23)
          clear z6
          replace r_g := keepB b6 r_g
          replace r_r := keepB b6 r_r
          replace r_k := keepB b6 r_k
          replace HB := hide (HB.out.trans (b6.mono HB.out.size))
          clear b6
          have HR1 := hide r_r
          go_wp2
          refine bodyPost_ret (results_tmp_cell_tmp (fn := Try.f25) Try.results25 _ _ w.heap.size 23 #[.int .i64 0, .int .i64 0, .int .i64 0] (0, 0) _ rfl (setRow_heap _ _ _ _ _ _ HR1.out) Try.underlying23 rfl info_rflow) rfl ?_
          exact ⟨by rw [← HF3.out]; rfl, below_setRow HB.out (Nat.le_refl _) _⟩
    · obtain rfl : n = j := by omega
      have HFin : Hid (R = (m, (f, 0))) := hide (by
        have := HF.out
        rw [List.drop_of_length_le (by rw [← HN.out]; omega)] at this
        exact this.symm)
      have r_g := HQ2.out
      have r_r := HQ1.out
      have a1 := flA_one f
      have x1 := flA_x f
      have z1 := flA_size f
      have HIf : Hid ((Try.prog.info? 23).map (·.size) = some (flA f).size) := hide info_rflow
      obtain ⟨X, hX⟩ : ∃ X, X = flA f := ⟨_, rfl⟩
      have HX := hide hX
      rw [← hX] at r_g a1 x1 z1 HIf
      have hidx : decide ((n : Int) < (n : Int)) = false := by simp
      clear hX HF
      go_upto_region 18 with (fail)
      go_region_law (fail)
      all_goals
        go_wp2
        refine bodyPost_ret (results_tmp_cell_tmp (fn := Try.f25) Try.results25 _ _ w.heap.size 23 X (0, 0) _ rfl (setRow_heap _ _ _ _ _ _ HQ1.out) Try.underlying23 rfl HIf.out) rfl ?_
        exact ⟨by rw [HFin.out, HX.out]; rfl, below_setRow (below_drewV HBr.out) (Nat.le_refl _) _⟩
end Go.Proofs.Ytbkipfmnbfjkcaa
