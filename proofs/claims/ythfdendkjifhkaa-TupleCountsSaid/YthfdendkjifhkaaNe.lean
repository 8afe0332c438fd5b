/-
  The walks of the document's Counts.
-/
import Derived.Test.YthfdendkjifhkaaNd
namespace Go.Proofs.Ythfdendkjifhkaa
open Go.RowKit
theorem rs_rcn : rowSize Try.prog 82 = some 2 := by kernel_rfl
attribute [local go_sem ↓] exec_span exec_put exec_build heap_alloc_new heap_old
attribute [local go_sem] spanQ_ptr spanC_some heap_of_drew heap_of_drewN rs_rcn putAt_ptr putOk_ptr oldOk_some World.setRow_alloc_new
set_option maxRecDepth 100000
set_option linter.unusedVariables false
set_option linter.unusedSimpArgs false

/-- block g holds the document's counts, their numbers in block b. -/
structure RcS (w : World) (g b most : Nat) (l : List Nat) : Prop where
  blk : w.heap[g]? = some (.cells #[.int .u64 (most : Int), .slice (some ⟨b, 0, none⟩) 12 12] 82 (0, 0))
  row : w.heap[b]? = some (.cells (l.map u64V).toArray 69 (0, 0))
  len : l.length = 12
  le : ∀ n ∈ l, n ≤ most
  m : most < 18446744073709551616
  ne : g ≠ b
theorem RcS.keep {w w' : World} {g b most : Nat} {l : List Nat} (h : RcS w g b most l) (hg : w'.heap[g]? = w.heap[g]?) (hb : w'.heap[b]? = w.heap[b]?) : RcS w' g b most l := ⟨hg.trans h.blk, hb.trans h.row, h.len, h.le, h.m, h.ne⟩
theorem RcS.c0 {w : World} {g b most : Nat} {l : List Nat} (h : RcS w g b most l) : w.cell? ⟨g, 0, none⟩ = some (.int .u64 (most : Int)) := (cell_of_row w g 0 _ _ (0, 0) h.blk).trans rfl
theorem RcS.c1 {w : World} {g b most : Nat} {l : List Nat} (h : RcS w g b most l) : w.cell? ⟨g, 1, none⟩ = some (.slice (some ⟨b, 0, none⟩) 12 12) := (cell_of_row w g 1 _ _ (0, 0) h.blk).trans rfl
theorem RcS.ck {w : World} {g b most : Nat} {l : List Nat} (h : RcS w g b most l) (k : Nat) (hk : k < l.length) : w.cell? ⟨b, k, none⟩ = some (.int .u64 (l[k] : Int)) := by
  rw [cell_of_row w b k _ _ (0, 0) h.row]
  simp [u64V, hk]
theorem RcS.ltg {w : World} {g b most : Nat} {l : List Nat} (h : RcS w g b most l) : g < w.heap.size := (Array.getElem?_eq_some_iff.1 h.blk).1
theorem RcS.ltb {w : World} {g b most : Nat} {l : List Nat} (h : RcS w g b most l) : b < w.heap.size := (Array.getElem?_eq_some_iff.1 h.row).1
theorem RcS.set {w : World} {g b most : Nat} {l : List Nat} (h : RcS w g b most l) (k n : Nat) (hn : n ≤ most) : RcS (w.setCell ⟨b, k, none⟩ (.int .u64 (n : Int))) g b most (l.set k n) := by
  refine ⟨(Below.heap_setCell w ⟨b, k, none⟩ _ g h.ne).trans h.blk, ?_, by rw [List.length_set]; exact h.len, fun x hx => ?_, h.m, h.ne⟩
  · rw [heap_setCell_same w b k _ _ (.int .u64 (n : Int)) h.row, List.setIfInBounds_toArray, List.map_set]
    rfl
  · rcases List.mem_or_eq_of_mem_set hx with hx | rfl
    · exact h.le x hx
    · exact hn
theorem built_rcn (m : Int) (A : Option Addr) (n c : Nat) : Try.prog.built 82 [(0, .int .u64 m), (1, .slice A n c)] = some #[.int .u64 m, .slice A n c] := by kernel_rfl
theorem info_u64C : (Try.prog.info? 69).map (fun i => (i.zero, i.size, i.bytes)) = some (some (.int .u64 0), 1, 8) := by kernel_rfl
theorem make_u64 (w : World) : (Instr.makeSlice 80 (.int .i64 12) (.int .i64 12)).run Try.prog w = .ok (.slice (some ⟨w.heap.size, 0, none⟩) 12 12) (w.alloc (.cells ((List.replicate 12 0).map u64V).toArray 69)) := by
  obtain ⟨i0, hi, h0, h1, h2⟩ := info_parts info_u64C
  have h := run_makeSlice w 80 69 i0 (.int .u64 0) Try.underlying80 hi h0 .i64 .i64 12 12 (by decide) (by decide) (by rw [h1]; decide) (by rw [h2]; decide) (by decide)
  rw [h]
  have e : madeCells (Value.int .u64 0).cells ((12 : Int).toNat * i0.size) = ((List.replicate 12 0).map u64V).toArray := by
    rw [h1]
    apply Array.toList_inj.1
    show (madeCells #[Value.int .u64 0] 12).toList = _
    rw [toList_madeCells_one]
    rfl
  rw [e]
  rfl
set_option maxHeartbeats 1000000 in
theorem newR_any (w : World) (most : Nat) (hm : most < 18446744073709551616) :
    Calls Try.prog 34 #[.int .u64 (most : Int)] w fun e w' => ∃ g b, e = .returned (.pointer (some ⟨g, 0, none⟩)) ∧ RcS w' g b most (List.replicate 12 0) ∧ w.heap.size ≤ g ∧ w.heap.size ≤ b ∧ Below w.heap.size w w' := by
  have hms := make_u64 w
  have hb := built_rcn (most : Int) (some ⟨w.heap.size, 0, none⟩) 12 12
  obtain ⟨Z, hZ⟩ : ∃ Z : Array Value, Z = ((List.replicate 12 0).map u64V).toArray := ⟨_, rfl⟩
  rw [← hZ] at hms
  have r1 := heap_alloc_new w (.cells Z 69)
  have b1 : Below w.heap.size w (w.alloc (.cells Z 69)) := (Below.refl _ _).alloc (Nat.le_refl _) _
  have hz1 : (w.alloc (.cells Z 69)).heap.size = w.heap.size + 1 := by simp
  have hF : Hid (∀ X, X = #[Value.int .u64 (most : Int), .slice (some ⟨w.heap.size, 0, none⟩) 12 12] → RcS ((w.alloc (.cells Z 69)).alloc (.cells X 82)) (w.heap.size + 1) w.heap.size most (List.replicate 12 0)) := hide (fun X hX => by
    refine ⟨?_, ?_, rfl, fun n hn => by rw [(List.mem_replicate.1 hn).2]; exact Nat.zero_le _, hm, by omega⟩
    · rw [← hz1, heap_alloc_new, hX]
    · rw [Below.heap_alloc _ _ _ (by omega), r1, hZ])
  clear hZ r1
  go_enter Try.func34, Try.ntmps34
  go_wp2
  go_ret
  exact ⟨_, _, rfl, hF.out _ rfl, by omega, Nat.le_refl _, b1.alloc b1.size _⟩
set_option maxHeartbeats 2000000 in
theorem addR_any (w : World) (g b most : Nat) (l : List Nat) (h : RcS w g b most l) (z : Int) (n : Nat) (hn : n < 18446744073709551616) :
    Calls Try.prog 37 #[.pointer (some ⟨g, 0, none⟩), .int .i64 z, .int .u64 (n : Int)] w fun e w' => e = .returned (.int .i64 (kE z)) ∧ RcS w' g b most (addL l z n most) ∧ w.grownBy w' (some b) := by
  have c0 := h.c0
  have c1 := h.c1
  by_cases hk : okKind z = true
  · obtain ⟨k, rfl, hk12⟩ := okKind_nat hk
    have hkl : k < l.length := by rw [h.len]; exact hk12
    have ck := h.ck k hkl
    have fk : w.frozen? ⟨b, k, none⟩ = false := frozen_of_row w b _ _ _ h.row
    have hG : getL l (k : Int) = l[k] := by unfold getL; rw [if_pos hk]; simp [List.getD_eq_getElem?_getD, List.getElem?_eq_getElem hkl]
    have hA : Hid (addL l (k : Int) n most = l.set k (togS l[k] n most)) := hide (by unfold addL; rw [if_pos hk, hG]; rfl)
    have hle := h.le l[k] (List.getElem_mem hkl)
    obtain ⟨a, ha⟩ : ∃ a, a = l[k] := ⟨_, rfl⟩
    rw [← ha] at ck hA hle
    have HK2 : Hid (kE (k : Int) = 0) := hide (by unfold kE; rw [if_pos hk])
    have c0d : w.drew.cell? ⟨g, 0, none⟩ = some (.int .u64 (most : Int)) := c0
    have c1d : w.drew.cell? ⟨g, 1, none⟩ = some (.slice (some ⟨b, 0, none⟩) 12 12) := c1
    have ckd : w.drew.cell? ⟨b, k, none⟩ = some (.int .u64 (a : Int)) := ck
    have fkd : w.drew.frozen? ⟨b, k, none⟩ = false := fk
    have i0 : (0 : Int) ≤ (k : Int) := by omega
    have i1 : (k : Int) < 12 := by omega
    have i2 : ¬ (k : Int) < 0 := by omega
    have i3 : ¬ (12 : Int) ≤ (k : Int) := by omega
    have hs : IntKind.u64.wrap ((most : Int) - (a : Int)) = ((most - a : Nat) : Int) := by rw [show (most : Int) - (a : Int) = ((most - a : Nat) : Int) by omega]; exact IntWalk.u64_in _ (by have := h.m; omega)
    obtain ⟨r, hr⟩ : ∃ r, r = most - a := ⟨_, rfl⟩
    rw [← hr] at hs
    have HSet := hide (fun t (ht : t ≤ most) => h.set k t ht)
    have HM := hide h.m
    by_cases hc : r < n
    · have hc' : (r : Int) < (n : Int) := by omega
      have hT : togS a n most = most := by unfold togS; rw [if_pos (by omega)]
      have HF := hide (HSet.out most (Nat.le_refl _))
      rw [hT] at hA
      clear h hk hkl hG ha hr hT
      go_enter Try.func37, Try.ntmps37
      have HG := hide (grown_set w b k (.int .u64 (most : Int)))
      go_wp2_with fail
      go_region_held3 (fun w' => w'.cell? ⟨g, 0, none⟩ = some (.int .u64 (most : Int)) ∧ w'.cell? ⟨g, 1, none⟩ = some (.slice (some ⟨b, 0, none⟩) 12 12) ∧ w'.cell? ⟨b, k, none⟩ = some (.int .u64 (a : Int)))
        (first | exact ⟨c0, c1, ck⟩ | exact ⟨c0d, c1d, ckd⟩ | fail) (fail)
      all_goals (
        go_wp2_with fail
        go_region_with (fail)
        all_goals (
          go_wp2
          go_ret
          exact ⟨by rw [HK2.out]; rfl, by rw [hA.out]; exact HF.out.keep rfl rfl, grown_drewN HG.out 2⟩))
    · have hc' : ¬ (r : Int) < (n : Int) := by omega
      have hT : togS a n most = a + n := by unfold togS; rw [if_neg (by omega)]
      have HF := hide (HSet.out (a + n) (by omega))
      have hw : IntKind.u64.wrap ((a : Int) + (n : Int)) = ((a + n : Nat) : Int) := by rw [show (a : Int) + (n : Int) = ((a + n : Nat) : Int) by omega]; exact IntWalk.u64_in _ (by have := HM.out; omega)
      have HG := hide (grown_set w b k (.int .u64 ((a + n : Nat) : Int)))
      obtain ⟨t, ht⟩ : ∃ t, t = a + n := ⟨_, rfl⟩
      rw [hT] at hA
      rw [← ht] at hA HF hw HG
      clear h hk hkl hG ha hr hT ht
      go_enter Try.func37, Try.ntmps37
      go_wp2_with fail
      go_region_held3 (fun w' => w'.cell? ⟨g, 0, none⟩ = some (.int .u64 (most : Int)) ∧ w'.cell? ⟨g, 1, none⟩ = some (.slice (some ⟨b, 0, none⟩) 12 12) ∧ w'.cell? ⟨b, k, none⟩ = some (.int .u64 (a : Int)))
        (first | exact ⟨c0, c1, ck⟩ | exact ⟨c0d, c1d, ckd⟩ | fail) (fail)
      all_goals (
        go_wp2_with fail
        go_region_with (fail)
        all_goals (
          go_wp2
          go_ret
          exact ⟨by rw [HK2.out]; rfl, by rw [hA.out]; exact HF.out.keep rfl rfl, grown_drewN HG.out 2⟩))
  · have hA : Hid (addL l z n most = l) := hide (by unfold addL; rw [if_neg hk])
    have HKF : Hid (kE z = 1) := hide (by unfold kE; rw [if_neg hk])
    have HH := hide h
    have hz : z < 0 ∨ (¬ z < 0 ∧ 12 ≤ z) := by
      unfold okKind at hk
      simp at hk
      omega
    clear h hk
    rcases hz with hz | ⟨hz, hz2⟩
    all_goals (
      go_enter Try.func37, Try.ntmps37
      go_wp2
      go_ret
      exact ⟨by rw [HKF.out]; rfl, by rw [hA.out]; exact HH.out, World.grownBy.refl _ _⟩)
theorem tot_stay (l : List Nat) : l.foldl (fun a n => togS a n 18446744073709551615) 18446744073709551615 = 18446744073709551615 := by
  induction l with
  | nil => rfl
  | cons n t ih =>
    rw [List.foldl_cons]
    have e : togS 18446744073709551615 n 18446744073709551615 = 18446744073709551615 := by unfold togS; split <;> omega
    rw [e]; exact ih
theorem tot_sat (l : List Nat) (j : Nat) (h : totL (l.take j) = 18446744073709551615) : totL l = 18446744073709551615 := by
  have e : l = l.take j ++ l.drop j := (List.take_append_drop j l).symm
  unfold totL at h ⊢
  rw [e, List.foldl_append, h]
  exact tot_stay _
set_option maxHeartbeats 2000000 in
theorem totalR_any (w : World) (g b most : Nat) (l : List Nat) (h : RcS w g b most l) :
    Calls Try.prog 40 #[.pointer (some ⟨g, 0, none⟩)] w fun e w' => e = .returned (.int .u64 ((totL l : Nat) : Int)) ∧ ∃ n, w' = w.drewN n := by
  have c1 := h.c1
  have HK := hide (fun k hk => h.ck k hk)
  have HL := hide h.len
  have HLE := hide h.le
  have HM := hide h.m
  clear h
  go_enter Try.func40, Try.ntmps40
  go_wp2
  go_loopw [3, 4] (fun v i wr => ∃ j : Nat, j ≤ 12 ∧ i = .int .i64 (j : Int) ∧ v = .int .u64 ((totL (l.take j) : Nat) : Int) ∧ ∃ n, wr = w.drewN n)
    (fun _ i _ => 12 - (intOf i).toNat)
  case atStart => exact ⟨0, by omega, rfl, rfl, 0, rfl⟩
  case round =>
    obtain ⟨j, hj, rfl, rfl, nd, hwr⟩ := hrel
    have d1 : wr.cell? ⟨g, 1, none⟩ = some (.slice (some ⟨b, 0, none⟩) 12 12) := by rw [hwr]; exact c1
    have HWR := hide hwr
    by_cases hlt : j < 12
    · have hjl : j < l.length := by rw [HL.out]; exact hlt
      have dk : wr.cell? ⟨b, j, none⟩ = some (.int .u64 (l[j] : Int)) := by rw [hwr]; exact HK.out j hjl
      have hsu := tot_succ l j hjl
      have hle := HLE.out l[j] (List.getElem_mem hjl)
      have htl := tot_le (l.take j) 0 (Nat.zero_le _)
      have hsat := hide (tot_sat l (j + 1))
      obtain ⟨n, hn⟩ : ∃ n, n = l[j] := ⟨_, rfl⟩
      rw [← hn] at dk hsu hle
      obtain ⟨T, hT⟩ : ∃ T, T = totL (l.take j) := ⟨_, rfl⟩
      have htl : T ≤ 18446744073709551615 := by rw [hT]; exact htl
      rw [← hT] at hsu ⊢
      have hs : IntKind.u64.wrap ((18446744073709551615 : Int) - (T : Int)) = ((18446744073709551615 - T : Nat) : Int) := by rw [show (18446744073709551615 : Int) - (T : Int) = ((18446744073709551615 - T : Nat) : Int) by omega]; exact IntWalk.u64_in _ (by omega)
      obtain ⟨r, hr⟩ : ∃ r, r = 18446744073709551615 - T := ⟨_, rfl⟩
      rw [← hr] at hs
      have hlt' : (j : Int) < 12 := by omega
      have i0 : (0 : Int) ≤ (j : Int) := by omega
      clear hn hjl hT hwr
      by_cases hc : r < n
      · have hc' : (r : Int) < (n : Int) := by omega
        have hF : Hid (totL l = 18446744073709551615) := hide (hsat.out (by rw [hsu]; unfold togS; rw [if_pos (by omega)]))
        clear hsu hr
        go_wp2
        go_ret
        exact ⟨by rw [hF.out]; rfl, by first | exact ⟨nd, HWR.out⟩ | exact ⟨nd + 1, by rw [HWR.out]; rfl⟩⟩
      · have hc' : ¬ (r : Int) < (n : Int) := by omega
        have hw : IntKind.u64.wrap ((T : Int) + (n : Int)) = ((T + n : Nat) : Int) := by rw [show (T : Int) + (n : Int) = ((T + n : Nat) : Int) by omega]; exact IntWalk.u64_in _ (by omega)
        have hT2 : Hid (totL (l.take (j + 1)) = T + n) := hide (by rw [hsu]; unfold togS; rw [if_neg (by omega)])
        clear hsu hr
        go_wp2
        go_roundw
        case rel => exact ⟨j + 1, by omega, by go_num, by rw [hT2.out]; rfl, by first | exact ⟨nd, HWR.out⟩ | exact ⟨nd + 1, by rw [HWR.out]; rfl⟩⟩
        case measure => simp [intOf]; omega
    · obtain rfl : j = 12 := by omega
      have hf : Hid (totL (l.take 12) = totL l) := hide (by rw [List.take_of_length_le (by rw [HL.out]; exact Nat.le_refl _)])
      clear hlt hwr
      go_wp2
      go_ret
      exact ⟨by rw [← hf.out]; rfl, by first | exact ⟨nd, HWR.out⟩ | exact ⟨nd + 1, by rw [HWR.out]; rfl⟩⟩
end Go.Proofs.Ythfdendkjifhkaa
