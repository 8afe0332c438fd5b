/-
  The walk of FlowRuns.
-/
import Derived.Test.YtbkipfmnbfjkcaaVm
import Derived.Test.YtbkipfmnbfjkcaaWha
namespace Go.Proofs.Ytbkipfmnbfjkcaa
open Go.RowKit
set_option maxRecDepth 100000
set_option linter.unusedVariables false
set_option linter.unusedSimpArgs false
theorem built_pkt (a b : Int) : Try.prog.built 46 [(0, .int .i64 a), (1, .int .i64 b)] = some #[.int .i64 a, .int .i64 b] := by kernel_rfl
theorem info_pkt : (Try.prog.info? 46).map (fun i => (i.zero, i.size, i.bytes)) = some (some (.agg #[.int .i64 0, .int .i64 0]), 2, 16) := by kernel_rfl
attribute [local go_sem ↓] exec_span exec_put exec_build heap_alloc_new heap_old
attribute [local go_sem] spanQ_ptr spanC_some heap_of_drew heap_of_drewN putAt_ptr putOk_ptr oldOk_some World.setRow_alloc_new rs_Flow rs_RFlow built_flow0 built_rflow0 built_flow2 built_flow3 built_rflow3 rs_Pkt rs_RPkt built_pkt
theorem pk_sizes (l : List (Int × Int)) : ∀ X ∈ l.map pkA, X.size = 2 := by
  intro X hX
  obtain ⟨k, _, rfl⟩ := List.mem_map.1 hX
  rfl
set_option maxHeartbeats 16000000 in
theorem flowRuns_any (w : World) (p : Int) (A : Option Addr) (n c : Nat) (l : List (Int × Int)) (hn : n = l.length) (hb : n ≤ 8796093022208) (hr : RowK 2 w A (l.map pkA)) (hw : ∀ k ∈ l, k.2 ≤ 9223372036854775807) :
    Calls Try.prog 4 #[.int .i64 p, .slice A n c] w (RetV w (.bool true)) := by
  obtain ⟨i0, hi0, hz0, hz1, hz2⟩ := info_parts info_pkt
  have HN := hide hn
  have KR := hide hr
  have KF := hide (fun W A n c h1 h2 h3 => runF_any W p A n c l h1 h2 h3)
  have KF' := hide (fun W A n c h1 h2 h3 => runR_any W p A n c l h1 h2 h3 hw)
  have KT := hide (fun W f => taken19_any W f)
  have KK := hide (fun W => known19_any W)
  have EQ := hide eql_rflow
  clear hn hr hw
  go_enter Try.func4, Try.ntmps4
  go_wp2_with fail
  go_loopw [5, 6] (fun sv sj wr => ∃ j : Nat, j ≤ n ∧ sj = .int .i64 (j : Int) ∧ Hid (wr.ownsRow w.heap.size 46 2 sv j (flatR ((l.take j).map pkA))) ∧ Hid (Below w.heap.size w wr)) (fun _ sj _ => n - (Go.RowKit.intOf sj).toNat)
  case atStart => exact ⟨0, Nat.zero_le _, rfl, hide (World.ownsRow_nil _ _ _ _), hide (Below.refl _ _)⟩
  case round =>
    obtain ⟨j, hj, rfl, HR, HB⟩ := hrel
    by_cases hlt : j < n
    · have hlt' : j < l.length := by rw [← HN.out]; exact hlt
      obtain ⟨b, off, Y, t, fr, rfl, hbl, hY, hY1, hY2⟩ := (KR.out.below HB.out) j (pkA l[j]) (by simp [hlt'])
      have hq : l[j]? = some l[j] := List.getElem?_eq_getElem hlt'
      obtain ⟨⟨q1, q2⟩, hk⟩ : ∃ k, k = l[j] := ⟨_, rfl⟩
      rw [← hk] at hq hY2
      have d0 : wr.drew.cell? ⟨b, off + j * 2, none⟩ = some (.int .i64 q1) := RowK.cell (k := 2) (off := 0) (i := 0) hY hY2 (by omega) rfl
      have d1 : wr.drew.cell? ⟨b, off + j * 2 + 1, none⟩ = some (.int .i64 q2) := RowK.cell (k := 2) (off := 0) (i := 1) hY hY2 (by omega) rfl
      obtain ⟨W2, hw2, r2, z2, b2⟩ := alloc_nm wr.drew (.cells #[.int .i64 q1, .int .i64 q2] 46)
      have r2' : W2.heap[wr.heap.size]? = some (.cells #[.int .i64 q1, .int .i64 q2] 46 (0, 0)) := r2
      have hown2 : W2.ownsRow w.heap.size 46 2 _ j (flatR ((l.take j).map pkA)) := keepR (w := wr.drew) HR.out b2
      obtain ⟨v', w4, hap, h2, h3, h4⟩ := run_app_two W2 w.heap.size 43 46 43 i0 _ 16 Try.underlying43 hi0 hz0 hz1 hz2 rfl _ _ _ hown2 (some ⟨wr.heap.size, 0, none⟩) 1 1 [.int .i64 q1, .int .i64 q2] rfl
        (fun _ => ⟨wr.heap.size, 0, rfl, fun n u hu => by rw [cell_of_row W2 _ (0 + n) _ _ (0, 0) r2', Nat.zero_add]; simpa using hu⟩) (fun e => by cases e) (fun u hu => by simp at hu; rcases hu with rfl | rfl <;> rfl) (by unfold maxLen; omega) (by omega) (by have := b2.size; have := HB.out.size; have : wr.drew.heap.size = wr.heap.size := rfl; omega)
      have HR4 : Hid (w4.ownsRow w.heap.size 46 2 v' (j + 1) (flatR ((l.take (j + 1)).map pkA))) := hide (by
        rw [List.take_add_one, hq, Option.toList_some, List.map_append, flatR_app]
        exact h2)
      have HB4 : Hid (Below w.heap.size w w4) := hide ((HB.out.trans (Below.mono (show Below wr.heap.size wr W2 from ⟨b2.os, b2.tape, b2.output, b2.size, b2.block⟩) HB.out.size)).grown h3 (by have := b2.size; have := HB.out.size; have : wr.drew.heap.size = wr.heap.size := rfl; omega) (fun k hk => (hown2.lt k hk).1))
      have hidx : decide ((j : Int) < (n : Int)) = true := by simpa using hlt
      have HLT := hide hlt
      have hltb := hlt
      clear hq r2 r2' z2 b2 hown2 h2 h3 h4 hbl HR HB hk hY hY1 hY2 hlt' hlt
      go_wp2_with fail
      go_region_law (first | (refine step_append_eq rfl _ _ 43 43 rfl _ _ (by simp [Act.eval, Act.put]) (by simp [Act.eval, Act.put]) hap ?_) | fail)
      all_goals
        go_wp2_with fail
        exact ⟨⟨j + 1, HLT.out, by go_num, HR4, HB4⟩, by simp [Go.RowKit.intOf]; have := HLT.out; omega⟩
    · obtain rfl : n = j := by omega
      have HF : Hid (wr.ownsRow w.heap.size 46 2 _ n (flatR (l.map pkA))) := hide (by
        have := HR.out
        rwa [List.take_of_length_le (by rw [← HN.out]; omega)] at this)
      obtain ⟨Ao, co, rfl, hco, hlo, hro⟩ := RowK.of_own (pk_sizes l) (by omega) HF.out
      have HRO := hide hro
      have hidx : decide ((n : Int) < (n : Int)) = false := by simp
      have KF1 := hide (KF.out wr Ao n co HN.out hb HRO.out)
      have KF2 := hide (fun W (hB : Below wr.heap.size wr W) => KF'.out W A n c HN.out hb ((KR.out.below HB.out).below hB))
      obtain ⟨⟨m, ⟨f, e⟩⟩, hR⟩ : ∃ R, R = runF p l (0, fl0) := ⟨_, rfl⟩
      rw [← hR] at KF1 KF2
      have HBw := HB
      have KT1 := hide (fun W => KT.out W f)
      have E1 : ∀ W, (binOp .eql 23 (flV f) (flV f)).run Try.prog W = .ok (.bool true) W := fun W => EQ.out W f
      have a1 := flA_one f
      have x1 := flA_x f
      have z1 := flA_size f
      unfold nxE flV at *
      dsimp only at *
      generalize flA f = X at *
      clear hR HF HR KF KF' KR HRO hro hco hlo HN EQ KT hj hlt
      have n1 : (m == m) = true := by simp
      have n2 : (e == e) = true := by simp
      have HB0 := hide (Below.refl wr.heap.size wr)
      go_wp2_with fail
      go_at_call 24
      with_reducible refine KF1.out.mono ?_
      rintro e1 W3 ⟨rfl, b3⟩
      have KF3 := hide (KF2.out W3 b3)
      have HBz := hide (fun W (h : Below W3.heap.size W3 W) => b3.trans (h.mono b3.size))
      replace HB := hide (HB.out.trans (b3.mono HB.out.size))
      clear b3
      dsimp only
      obtain ⟨W4, hW4, r_f, z4, b4⟩ := alloc_nm W3 (.cells X 24)
      clear z4
      have b4x := b4
      replace HB := hide (HB.out.trans (b4.mono HB.out.size))
      clear b4
      have KF4 := hide (KF2.out W4 (HBz.out W4 b4x))
      go_wp2_with fail
      go_at_call 25
      with_reducible refine KF4.out.mono ?_
      rintro e1 W5 ⟨rfl, b5⟩
      replace r_f := keepB b5 r_f
      replace HB := hide (HB.out.trans (b5.mono HB.out.size))
      clear b5
      clear b4x
      dsimp only
      obtain ⟨W6, hW6, r_r, z6, b6⟩ := alloc_nm W5 (.cells X 23)
      clear z6
      replace r_f := keepB b6 r_f
      replace HB := hide (HB.out.trans (b6.mono HB.out.size))
      clear b6
      go_upto_region 8 with (fail)
      have R_f : ∀ q : BW W6, q.w.heap[W3.heap.size]? = some (.cells X 24 (0, 0)) := fun q => q.block r_f
      have R_r : ∀ q : BW W6, q.w.heap[W5.heap.size]? = some (.cells X 23 (0, 0)) := fun q => q.block r_r
      first | refine wp_region_belowS W6 (Below.refl _ _) ?_ | refine wp_region_below W6 (Below.refl _ _) (by kernel_rfl) (by kernel_rfl) ?_
      (try simp only [List.append_eq, List.cons_append, List.nil_append])
      repeat
        first
        | (go_big_quiet_step (first
          | (go_at_call 22; with_reducible exact Calls.bel (KT1.out _))
          | (go_at_call 23; with_reducible exact Calls.bel (KK.out _))
          | fail))
        | (go_big_quiet_want; apply quiet_span; (intro p; go_simp; rfl); (try simp only [Act.put, List.setIfInBounds_toArray, List.set_cons_zero, List.set_cons_succ]); go_big_quiet_on)
      refine wpQuiet_nil ?_
      intro _ hw'
      obtain ⟨pq7, hw''⟩ := hw'
      subst hw''
      clear R_f
      clear R_r
      obtain ⟨W7, b7⟩ := pq7
      dsimp only
      replace r_f := keepB b7 r_f
      replace r_r := keepB b7 r_r
      replace HB := hide (HB.out.trans (b7.mono HB.out.size))
      clear b7
      go_wp2
      go_ret
      exact ⟨rfl, HB.out⟩
end Go.Proofs.Ytbkipfmnbfjkcaa
