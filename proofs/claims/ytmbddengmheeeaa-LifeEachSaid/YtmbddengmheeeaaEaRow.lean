/-
  Proved: whatever is known of a backend, and whatever numbers, LifeEach returns true (all have no flow to a backend just when each one has said so), and each argument reads as it read before. No condition.
-/
import Derived.Test.YtmbddengmheeeaaRow
import Derived.Test.YtmbddengmheeeaaRowL
import Derived.Test.YtmbddengmheeeaaRowI
import Derived.Test.YtmbddengmheeeaaLge
import Derived.Test.YtmbddengmheeeaaOr
namespace Go.Proofs.Ytmbddengmheeeaa
open Go.RowKit
set_option maxRecDepth 100000
set_option linter.unusedVariables false
set_option linter.unusedSimpArgs false
attribute [local go_sem ↓] exec_span exec_put exec_build heap_alloc_new heap_old
attribute [local go_sem] spanQ_ptr spanC_some heap_of_drew heap_of_drewN rs_ad rs_spec rs_rec rs_rrec putAt_ptr putOk_ptr oldOk_some store_fl World.setRow_alloc_new

theorem rc_set23 {X : Array Value} {k : Kn} {va : Option Addr} {vc : Nat} {d : Int} (h : RcV X (k.rc va vc)) : RcV (X.setIfInBounds 23 (.int .i64 d)) ((withD k d).rc va vc) := by
  refine ⟨?_, h.la, h.wf⟩
  rw [h.eq, List.setIfInBounds_toArray]
  congr 1
  have hl := len_spL h.la
  simp only [Kn.rc] at hl
  simp only [rcL, Kn.rc, List.set_cons_succ]
  rw [List.set_append_right _ _ (by omega), hl]; rfl
theorem kn_withD {w : World} {B : Nat} {X : Array Value} {k : Kn} {va : Option Addr} {vc : Nat} (h : KnV w B X k va vc) (d : Int) : KnV w B (X.setIfInBounds 23 (.int .i64 d)) (withD k d) va vc := ⟨rc_set23 h.rc, h.vo, h.sz, h.nn, h.cp⟩
theorem kn_bareD {w : World} {B : Nat} {X : Array Value} {k : Kn} {va : Option Addr} {vc : Nat} {e : Int} (h : RcV X ((withD k e).rc va vc)) (d : Int) : KnV w B ((X.setIfInBounds 22 (.slice none 0 0)).setIfInBounds 23 (.int .i64 d)) (bareD k d) none 0 :=
  kn_withD (kn_bare (w := w) (B := B) h) d
theorem shl_one12 {x : Nat} (hx : x < 16) : wrap64 ((2 : Int) ^ x) = ((2 ^ x : Nat) : Int) := by
  have h := powG hx
  have e : ((2 : Int) ^ x) = ((2 ^ x : Nat) : Int) := by simp
  rw [e]
  have hp := Nat.two_pow_pos x
  generalize 2 ^ x = p at h hp
  rw [Go.IntWalk.wrap64_in _ (by omega)]
def boolA (S : List Bool) : Array Value := (S.map Value.bool).toArray
theorem boolA_get {S : List Bool} {j : Nat} (h : j < S.length) : (boolA S)[j]? = some (.bool S[j]) := by unfold boolA; simp [h]
theorem boolA_set {S : List Bool} {j : Nat} (b : Bool) : (boolA S).setIfInBounds j (.bool b) = boolA (S.set j b) := by unfold boolA; rw [List.setIfInBounds_toArray, List.map_set]
theorem info_boE : (Try.prog.info? 4).map (fun i => (i.zero, i.size, i.bytes)) = some (some (.bool false), 1, 1) := by kernel_rfl
theorem made_bo (n : Nat) : madeCells #[.bool false] n = boolA (List.replicate n false) := by
  apply Array.toList_inj.1
  rw [toList_madeCells_one]
  unfold boolA
  simp
/-- what the memory holds behind some rounds. -/
structure EaI (w wr : World) (g gs : Nat) (k : Kn) (S : List Bool) (m : Nat) : Prop where
  row : ∃ M v c, wr.heap[g]? = some (.cells M 34 (0, 0)) ∧ KnV wr wr.heap.size M (withD k (m : Int)) v c ∧ RowNe v k.vs g ∧ RowNe v k.vs gs
  said : wr.heap[gs]? = some (.cells (boolA S) 4 (0, 0))
  sm : SaidM S m
  bel : Below w.heap.size w wr
  lt : g < wr.heap.size
  lts : gs < wr.heap.size
set_option maxHeartbeats 16000000 in
theorem lifeEach_any (w : World) (X : Array Value) (k : Kn) (va : Option Addr) (ca : Nat) (nodes : Int) (A : Option Addr) (c : Nat) (l : List Int) (hk : KnV w w.heap.size X k va ca) (hl : k.vs.length ≤ 8796093022208) (hi : IntS w w.heap.size A l) (hll : l.length ≤ 4611686018427387904) :
    Calls Try.prog 6 #[.agg X, .int .i64 nodes, .slice A l.length c] w (fun e w' => e = .returned (.bool true) ∧ Below w.heap.size w w') := by
  have HB0 := hide (Below.refl w.heap.size w)
  have K_X := hide hk
  have LX := hide hl
  have HI := hide hi
  clear hk hl hi
  have s_X := K_X.out.rc.size
  have x_X := K_X.out.rc.x0
  have o_X := K_X.out.rc.one
  obtain ⟨T, hT⟩ : ∃ T, T = l.length := ⟨_, rfl⟩
  rw [← hT] at hll ⊢
  have HT := hide hT
  clear hT
  go_enter Try.func6, Try.ntmps6
  go_upto_region 1 with (fail)
  change Code.wp _ _ _ _ (w.alloc (.cells X 30))
  obtain ⟨w1, hw1, r_X, z1, b1⟩ := alloc_nam w (.cells X 30)
  rw [hw1]
  have L_X := hide (show w.heap.size < w1.heap.size by omega)
  have G'_X := HB0.out.size
  replace K_X := hide ((K_X.out.below b1 (Nat.le_refl _)).more b1.size)
  replace HB0 := hide (HB0.out.trans (b1.mono HB0.out.size))
  obtain ⟨g_X, hg1⟩ : ∃ g, g = w.heap.size := ⟨_, rfl⟩
  have G_X : Hid (w.heap.size ≤ g_X) := hide (by rw [hg1]; exact G'_X)
  clear G'_X
  rw [← hg1] at r_X L_X
  rw [← hg1]
  clear hw1 b1
  clear z1 hg1
  go_wp2_with fail
  refine (given_kn w1 X _ _ _ K_X.out LX.out).mono ?_
  rintro e w2 ⟨M, rfl, v_M, c_M, k_M, b_M⟩
  dsimp only
  replace r_X := (b_M.block g_X L_X.out).trans r_X
  replace L_X := hide (Nat.lt_of_lt_of_le L_X.out b_M.size)
  replace K_X := hide ((K_X.out.below b_M (Nat.le_refl _)).more b_M.size)
  replace HB0 := hide (HB0.out.trans (b_M.mono HB0.out.size))
  have K_M := hide k_M
  have s_M := K_M.out.rc.size
  have x_M := K_M.out.rc.x0
  have o_M := K_M.out.rc.one
  clear k_M b_M r_X L_X K_X LX s_X x_X o_X
  go_upto_region 2 with (fail)
  obtain ⟨w3, hw3, r_x, z3, b3⟩ := alloc_nam w2 (.cells M 34)
  rw [hw3]
  have L_x := hide (show w2.heap.size < w3.heap.size by omega)
  have G'_x := HB0.out.size
  have N_K_M_x := hide (RowNe.old K_M.out (Nat.le_refl _))
  replace K_M := hide ((K_M.out.below b3 (Nat.le_refl _)).more b3.size)
  replace HB0 := hide (HB0.out.trans (b3.mono HB0.out.size))
  obtain ⟨g_x, hg3⟩ : ∃ g, g = w2.heap.size := ⟨_, rfl⟩
  have G_x : Hid (w.heap.size ≤ g_x) := hide (by rw [hg3]; exact G'_x)
  clear G'_x
  rw [← hg3] at r_x L_x N_K_M_x ⊢
  clear hw3 z3 b3 hg3
  have FB := hide HB0.out
  have HF : Hid (∀ (p : BW w3) (w' : World), Below p.w.heap.size p.w w' → Below w.heap.size w w') := hide fun p w' hb => FB.out.trans ((p.below.trans (hb.mono p.below.size)).mono FB.out.size)
  have KR := hide (fun p : BW w3 => rightK_any p.w w3.heap.size M k _ _ (K_M.out.below p.below (Nat.le_refl _)) p.below.size)
  have R_x : ∀ p : BW w3, p.w.heap[g_x]? = some (.cells M 34 (0, 0)) := fun p => p.block r_x
  obtain ⟨c0, -, -, -⟩ := K_M.out.rc.cells r_x
  simp only [Kn.rc] at c0
  obtain ⟨kg, hkg⟩ : ∃ x, x = k.g := ⟨_, rfl⟩
  rw [← hkg] at c0
  have C0 : ∀ p : BW w3, p.w.cell? ⟨g_x, 0, none⟩ = some (.int .i64 kg) := fun p => p.cell c0
  clear c0
  obtain ⟨qk, hqk⟩ : ∃ q, q = okK k := ⟨_, rfl⟩
  rw [← hqk] at KR
  obtain ⟨q0, hq0⟩ : ∃ q, q = (kg == 0) := ⟨_, rfl⟩
  have tq0 := hq0.symm
  have QQ := hide (And.intro hqk (And.intro hkg hq0))
  clear hqk hkg hq0
  cases qk
  · first | refine wp_region_belowS w3 (Below.refl _ _) ?_ | refine wp_region_below w3 (Below.refl _ _) (by kernel_rfl) (by kernel_rfl) ?_
    repeat
      first
      | (go_big_quiet_step (first
      | ((go_at_call 11; with_reducible exact Calls.bel (KR.out _)))
      | fail))
      | (go_big_quiet_want; apply quiet_span; (intro p; go_simp; rfl); (try simp only [Act.put, List.setIfInBounds_toArray, List.set_cons_zero, List.set_cons_succ]); go_big_quiet_on)
    refine wpQuiet_nil ?_
    intro _ hw'
    obtain ⟨pq, hw''⟩ := hw'
    subst hw''
    go_wp2_with fail
    refine (knownL_any pq.w).mono ?_
    rintro e wk ⟨rfl, bk⟩
    dsimp only
    have HK := hide (HF.out pq wk bk)
    clear bk
    go_wp2
    go_ret
    exact ⟨rfl, HK.out⟩
  cases q0
  case true =>
    first | refine wp_region_belowS w3 (Below.refl _ _) ?_ | refine wp_region_below w3 (Below.refl _ _) (by kernel_rfl) (by kernel_rfl) ?_
    repeat
      first
      | (go_big_quiet_step (first
      | ((go_at_call 11; with_reducible exact Calls.bel (KR.out _)))
      | fail))
      | (go_big_quiet_want; apply quiet_span; (intro p; go_simp; rfl); (try simp only [Act.put, List.setIfInBounds_toArray, List.set_cons_zero, List.set_cons_succ]); go_big_quiet_on)
    refine wpQuiet_nil ?_
    intro _ hw'
    obtain ⟨pq, hw''⟩ := hw'
    subst hw''
    go_wp2_with fail
    refine (knownL_any pq.w).mono ?_
    rintro e wk ⟨rfl, bk⟩
    dsimp only
    have HK := hide (HF.out pq wk bk)
    clear bk
    go_wp2
    go_ret
    exact ⟨rfl, HK.out⟩
  first | refine wp_region_belowS w3 (Below.refl _ _) ?_ | refine wp_region_below w3 (Below.refl _ _) (by kernel_rfl) (by kernel_rfl) ?_
  repeat
    first
    | (go_big_quiet_step (first
    | ((go_at_call 11; with_reducible exact Calls.bel (KR.out _)))
    | fail))
    | (go_big_quiet_want; apply quiet_span; (intro p; go_simp; rfl); (try simp only [Act.put, List.setIfInBounds_toArray, List.set_cons_zero, List.set_cons_succ]); go_big_quiet_on)
  refine wpQuiet_nil ?_
  intro _ hw'
  obtain ⟨pq, hw''⟩ := hw'
  subst hw''
  obtain ⟨hk1, hk2, h0⟩ := QQ.out
  have HG : Hid (k.g > 0 ∧ okR k = true) := hide (by
    have e0 : k.g ≠ 0 := by rw [← hk2]; simpa using h0.symm
    have e1 := okK_pos hk1.symm e0
    refine ⟨?_, e1⟩
    unfold okR at e1
    simp only [Bool.and_eq_true, decide_eq_true_eq] at e1
    exact e1.1)
  clear hk1 hk2 h0 QQ tq0 KR R_x C0 HF FB
  obtain ⟨w20, hw20⟩ : ∃ w1, w1 = pq.w := ⟨_, rfl⟩
  have b20 := pq.below
  rw [← hw20] at b20 ⊢
  replace r_x := (b20.block g_x L_x.out).trans r_x
  replace L_x := hide (Nat.lt_of_lt_of_le L_x.out b20.size)
  replace K_M := hide ((K_M.out.below b20 (Nat.le_refl _)).more b20.size)
  replace HB0 := hide (HB0.out.trans (b20.mono HB0.out.size))
  clear b20 hw20 pq
  go_wp2_with fail
  refine (count_any nodes 16 _ (by decide) (by decide)).mono ?_
  rintro e w21 ⟨rfl, rfl⟩
  dsimp only
  obtain ⟨n, hn⟩ : ∃ n, n = 1 + countS nodes 16 := ⟨_, rfl⟩
  have hn1 : 1 ≤ n := by omega
  have hn2 : n ≤ 16 := by have := count_lt nodes (show 0 < 16 by decide); omega
  have hn3 : (1 : Int) + (countS nodes 16 : Nat) = (n : Int) := by omega
  obtain ⟨cn, hcn⟩ : ∃ c, c = countS nodes 16 := ⟨_, rfl⟩
  rw [← hcn] at hn3 ⊢
  clear hn hcn
  have c23 := (K_M.out.rc.cells r_x).2.2.2
  simp only [Kn.rc] at c23
  have f23 := frozen_of_row w20 g_x 23 _ _ r_x
  go_upto_region 6 with (fail)
  rw [setCell_eq_setRow w20 g_x 23 M 34 (0, 0) _ r_x]
  have KD := kn_withD K_M.out 0
  obtain ⟨Y, hY⟩ : ∃ Y, Y = M.setIfInBounds 23 (.int .i64 0) := ⟨_, rfl⟩
  rw [← hY] at KD ⊢
  clear c23 f23
  have K_Y := hide KD
  have N_K_Y_x : Hid (RowNe v_M (withD k 0).vs g_x) := N_K_M_x
  clear KD hY K_M N_K_M_x s_M x_M o_M
  obtain ⟨w4, hw4⟩ : ∃ W, W = w20.setRow g_x Y := ⟨_, rfl⟩
  rw [← hw4]
  replace r_x : w4.heap[g_x]? = some (.cells Y 34 (0, 0)) := by rw [hw4]; exact setRow_heap _ _ _ _ _ _ r_x
  replace L_x : Hid (g_x < w4.heap.size) := hide (by rw [hw4, setRow_size]; exact L_x.out)
  replace HB0 : Hid (Below w.heap.size w w4) := hide (by rw [hw4]; exact below_setRow HB0.out G_x.out _)
  replace K_Y := hide (KnV.setRow hw4 K_Y.out N_K_Y_x.out)
  clear hw4
  obtain ⟨i0, ib, ib0, ib1, ib2⟩ := info_parts info_boE
  have hmk : (Instr.makeSlice 58 (.int .i64 (n : Int)) (.int .i64 (n : Int))).run Try.prog w4 = .ok (.slice (some ⟨w4.heap.size, 0, none⟩) n n) (w4.alloc (.cells (boolA (List.replicate n false)) 4)) := by
    have h := run_make (P := Try.prog) w4 58 4 i0 _ Try.underlying58 ib ib0 .i64 .i64 (n : Int) (n : Int) (by omega) (by omega) (by rw [ib2]; omega) (by omega)
    simp only [Int.toNat_natCast, ib1, Nat.mul_one] at h
    rw [h, ← made_bo]; rfl
  clear ib ib0 ib1 ib2
  go_upto_region 7 with (fail)
  obtain ⟨w5, hw5, r_s, z5, b5⟩ := alloc_nam w4 (.cells (boolA (List.replicate n false)) 4)
  rw [hw5]
  have L_s := hide (show w4.heap.size < w5.heap.size by omega)
  have G'_s := HB0.out.size
  have D_x_s := L_x
  have N_K_Y_s := hide (RowNe.old K_Y.out (Nat.le_refl _))
  replace r_x := (b5.block g_x L_x.out).trans r_x
  replace L_x := hide (Nat.lt_of_lt_of_le L_x.out b5.size)
  replace K_Y := hide ((K_Y.out.below b5 (Nat.le_refl _)).more b5.size)
  replace HB0 := hide (HB0.out.trans (b5.mono HB0.out.size))
  obtain ⟨g_s, hg5⟩ : ∃ g, g = w4.heap.size := ⟨_, rfl⟩
  have G_s : Hid (w.heap.size ≤ g_s) := hide (by rw [hg5]; exact G'_s)
  clear G'_s
  rw [← hg5] at r_s L_s D_x_s N_K_Y_s ⊢
  clear hw5 z5 b5 hg5
  have HS0 : Hid (EaI w w5 g_x g_s k (List.replicate n false) 0) := hide ⟨⟨Y, _, _, r_x, K_Y.out, N_K_Y_x.out, N_K_Y_s.out⟩, r_s, saidM_zero n, HB0.out, L_x.out, L_s.out⟩
  have HB1 := HB0
  clear r_x L_x r_s L_s K_Y N_K_Y_x N_K_Y_s HB0 hmk
  go_wp2
  go_loopw [10, 11] (fun u i wr => ∃ (j : Nat) (S : List Bool) (m : Nat), j ≤ T ∧ i = .int .i64 (j : Int) ∧ S.length = n ∧ u = .int .i64 ((S.count false : Nat) : Int) ∧ Hid (EaI w wr g_x g_s k S m)) (fun _ i _ => T - (intOf i).toNat)
  case atStart => exact ⟨0, List.replicate n false, 0, by omega, rfl, by simp, by simp, HS0⟩
  case round =>
    obtain ⟨j, S, m, hj, rfl, hSn, rfl, hI⟩ := hrel
    obtain ⟨M, vM, cM, r_x, kM, nMx, nMs⟩ := hI.out.row
    have K_M := hide kM
    have N_K_M_x := hide nMx
    have N_K_M_s := hide nMs
    have r_s := hI.out.said
    have L_x := hide hI.out.lt
    have L_s := hide hI.out.lts
    have HB0 := hide hI.out.bel
    have HSM := hide hI.out.sm
    have HSN := hide hSn
    clear kM nMx nMs hI hSn
    have s_M := K_M.out.rc.size
    have x_M := K_M.out.rc.x0
    have o_M := K_M.out.rc.one
    by_cases hlt : j < T
    · by_cases h60 : (j : Int) < 60
      · have hji : (j : Int) < (T : Int) := by omega
        have hjl : j < l.length := by rw [← HT.out]; exact hlt
        obtain ⟨bA, oA, rfl, hbA, hcA⟩ := HI.out (by omega)
        have i1 := (HB0.out.cell (show (⟨bA, oA + j, none⟩ : Addr).block < w.heap.size from hbA)).trans (hcA j hjl)
        obtain ⟨q, hq⟩ : ∃ q, q = l[j] := ⟨_, rfl⟩
        rw [← hq] at i1
        clear hcA hbA hq hjl
        go_wp2_with fail
        refine (count_any q n _ (by omega) (by omega)).mono ?_
        rintro e w31 ⟨rfl, rfl⟩
        dsimp only
        obtain ⟨kk, hkk⟩ : ∃ c, c = countS q n := ⟨_, rfl⟩
        have hkn : kk < n := by rw [hkk]; exact count_lt q (by omega)
        rw [← hkk]
        clear hkk i1
        go_upto_region 12 with (fail)
        go_upto_region 13 with (fail)
        obtain ⟨w6, hw6, r_y, z6, b6⟩ := alloc_nam wr (.cells M 34)
        rw [hw6]
        have L_y := hide (show wr.heap.size < w6.heap.size by omega)
        have G'_y := HB0.out.size
        have D_x_y := L_x
        have D_s_y := L_s
        have N_K_M_y := hide (RowNe.old K_M.out (Nat.le_refl _))
        replace r_x := (b6.block g_x L_x.out).trans r_x
        replace L_x := hide (Nat.lt_of_lt_of_le L_x.out b6.size)
        replace r_s := (b6.block g_s L_s.out).trans r_s
        replace L_s := hide (Nat.lt_of_lt_of_le L_s.out b6.size)
        replace K_M := hide ((K_M.out.below b6 (Nat.le_refl _)).more b6.size)
        replace HB0 := hide (HB0.out.trans (b6.mono HB0.out.size))
        obtain ⟨g_y, hg6⟩ : ∃ g, g = wr.heap.size := ⟨_, rfl⟩
        have G_y : Hid (w.heap.size ≤ g_y) := hide (by rw [hg6]; exact G'_y)
        clear G'_y
        rw [← hg6] at r_y L_y D_x_y D_s_y N_K_M_y ⊢
        clear hw6 z6 b6 hg6
        have c22 := (K_M.out.rc.cells r_y).2.2.1
        simp only [Kn.rc] at c22
        have f22 := frozen_of_row w6 g_y 22 _ _ r_y
        go_upto_region 14 with (fail)
        rw [setCell_eq_setRow w6 g_y 22 M 34 (0, 0) _ r_y]
        clear c22 f22
        have KYB := fun (W : World) (B : Nat) (d : Int) => kn_bareD (w := W) (B := B) K_M.out.rc d
        obtain ⟨Y1, hY1⟩ : ∃ Y, Y = M.setIfInBounds 22 (.slice none 0 0) := ⟨_, rfl⟩
        rw [← hY1] at KYB ⊢
        obtain ⟨w7, hw7⟩ : ∃ W, W = w6.setRow g_y Y1 := ⟨_, rfl⟩
        rw [← hw7]
        replace r_x : w7.heap[g_x]? = some (.cells M 34 (0, 0)) := by rw [hw7, setRow_other _ _ _ _ (by have := D_x_y.out; omega)]; exact r_x
        replace L_x : Hid (g_x < w7.heap.size) := hide (by rw [hw7, setRow_size]; exact L_x.out)
        replace r_s : w7.heap[g_s]? = some (.cells (boolA S) 4 (0, 0)) := by rw [hw7, setRow_other _ _ _ _ (by have := D_s_y.out; omega)]; exact r_s
        replace L_s : Hid (g_s < w7.heap.size) := hide (by rw [hw7, setRow_size]; exact L_s.out)
        replace r_y : w7.heap[g_y]? = some (.cells Y1 34 (0, 0)) := by rw [hw7]; exact setRow_heap _ _ _ _ _ _ r_y
        replace L_y : Hid (g_y < w7.heap.size) := hide (by rw [hw7, setRow_size]; exact L_y.out)
        replace HB0 : Hid (Below w.heap.size w w7) := hide (by rw [hw7]; exact below_setRow HB0.out G_y.out _)
        replace K_M := hide (KnV.setRow hw7 K_M.out N_K_M_y.out)
        clear hw7
        have hk16 : kk < 16 := by omega
        have hsh := shl_one12 hk16
        have y1s : Y1.size = 24 := by rw [hY1, Array.size_setIfInBounds, s_M]
        have c23 : ∃ u, w7.cell? ⟨g_y, 23, none⟩ = some u := ⟨_, (cell_of_row w7 g_y 23 _ _ (0, 0) r_y).trans (Array.getElem?_eq_getElem (by rw [y1s]; decide))⟩
        obtain ⟨u1, c23⟩ := c23
        have f23 := frozen_of_row w7 g_y 23 _ _ r_y
        clear hY1
        go_upto_region 15 with (fail)
        rw [setCell_eq_setRow w7 g_y 23 Y1 34 (0, 0) _ r_y]
        clear c23 f23 u1
        have KYC := fun (W : World) (B : Nat) => KYB W B ((2 : Int) ^ kk)
        obtain ⟨Y2, hY2⟩ : ∃ Y, Y = Y1.setIfInBounds 23 (.int .i64 ((2 : Int) ^ kk)) := ⟨_, rfl⟩
        rw [← hY2] at KYC ⊢
        clear hY2 KYB hsh y1s
        obtain ⟨w8, hw8⟩ : ∃ W, W = w7.setRow g_y Y2 := ⟨_, rfl⟩
        rw [← hw8]
        replace r_x : w8.heap[g_x]? = some (.cells M 34 (0, 0)) := by rw [hw8, setRow_other _ _ _ _ (by have := D_x_y.out; omega)]; exact r_x
        replace L_x : Hid (g_x < w8.heap.size) := hide (by rw [hw8, setRow_size]; exact L_x.out)
        replace r_s : w8.heap[g_s]? = some (.cells (boolA S) 4 (0, 0)) := by rw [hw8, setRow_other _ _ _ _ (by have := D_s_y.out; omega)]; exact r_s
        replace L_s : Hid (g_s < w8.heap.size) := hide (by rw [hw8, setRow_size]; exact L_s.out)
        replace r_y : w8.heap[g_y]? = some (.cells Y2 34 (0, 0)) := by rw [hw8]; exact setRow_heap _ _ _ _ _ _ r_y
        replace L_y : Hid (g_y < w8.heap.size) := hide (by rw [hw8, setRow_size]; exact L_y.out)
        replace HB0 : Hid (Below w.heap.size w w8) := hide (by rw [hw8]; exact below_setRow HB0.out G_y.out _)
        replace K_M := hide (KnV.setRow hw8 K_M.out N_K_M_y.out)
        clear hw8
        have K_Y := hide (KYC w8 w8.heap.size)
        rw [show ((2 : Int) ^ kk) = ((2 ^ kk : Nat) : Int) by simp] at K_Y
        have s_Y2 := K_Y.out.rc.size
        have x_Y2 := K_Y.out.rc.x0
        have o_Y2 := K_Y.out.rc.one
        clear KYC
        have hm := HSM.out.1
        rw [HSN.out] at hm
        have hm2 : m ≤ 65535 := by have : 2 ^ n ≤ 2 ^ 16 := Nat.pow_le_pow_right (by decide) hn2; omega
        have HJ := hide (each_join HG.out.2 (by have := HG.out.1; omega) hm2 hk16)
        clear hm hm2
        go_wp2_with fail
        refine (joinK_any w8 w8.heap.size M Y2 _ _ vM none cM 0 K_M.out K_Y.out (Nat.le_refl _)).mono ?_
        rintro e w9 ⟨J, he, vJ, cJ, kJ, oJ, bJ⟩
        rw [HJ.out.2] at he
        subst he
        rw [HJ.out.1] at kJ oJ
        dsimp only
        have nJ : ∀ g, g < w8.heap.size → RowNe vJ k.vs g := fun g hg => RowNe.own oJ hg
        have N_K_J_x := hide (nJ _ L_x.out)
        have N_K_J_s := hide (nJ _ L_s.out)
        have N_K_J_y := hide (nJ _ L_y.out)
        replace r_x := (bJ.block g_x L_x.out).trans r_x
        replace L_x := hide (Nat.lt_of_lt_of_le L_x.out bJ.size)
        replace r_s := (bJ.block g_s L_s.out).trans r_s
        replace L_s := hide (Nat.lt_of_lt_of_le L_s.out bJ.size)
        replace r_y := (bJ.block g_y L_y.out).trans r_y
        replace L_y := hide (Nat.lt_of_lt_of_le L_y.out bJ.size)
        replace K_M := hide ((K_M.out.below bJ (Nat.le_refl _)).more bJ.size)
        replace HB0 := hide (HB0.out.trans (bJ.mono HB0.out.size))
        have K_J := hide kJ
        have s_J := K_J.out.rc.size
        have x_J := K_J.out.rc.x0
        have o_J := K_J.out.rc.one
        clear kJ oJ bJ nJ K_Y s_Y2 x_Y2 o_Y2 K_M N_K_M_x N_K_M_s x_M o_M HJ
        go_upto_region 16 with (fail)
        obtain ⟨w10, hw10, r_j, z10, b10⟩ := alloc_nam w9 (.cells J 34)
        rw [hw10]
        have L_j := hide (show w9.heap.size < w10.heap.size by omega)
        have G'_j := HB0.out.size
        have D_x_j := L_x
        have D_s_j := L_s
        have D_y_j := L_y
        replace r_x := (b10.block g_x L_x.out).trans r_x
        replace L_x := hide (Nat.lt_of_lt_of_le L_x.out b10.size)
        replace r_s := (b10.block g_s L_s.out).trans r_s
        replace L_s := hide (Nat.lt_of_lt_of_le L_s.out b10.size)
        replace r_y := (b10.block g_y L_y.out).trans r_y
        replace L_y := hide (Nat.lt_of_lt_of_le L_y.out b10.size)
        replace K_J := hide ((K_J.out.below b10 (Nat.le_refl _)).more b10.size)
        replace HB0 := hide (HB0.out.trans (b10.mono HB0.out.size))
        obtain ⟨g_j, hg10⟩ : ∃ g, g = w9.heap.size := ⟨_, rfl⟩
        have G_j : Hid (w.heap.size ≤ g_j) := hide (by rw [hg10]; exact G'_j)
        clear G'_j
        rw [← hg10] at r_j L_j D_x_j D_s_j D_y_j ⊢
        clear hw10 z10 b10 hg10
        have hkS : kk < S.length := by rw [HSN.out]; exact hkn
        have i2 := (cell_of_row w10 g_s kk _ _ (0, 0) r_s).trans (boolA_get hkS)
        have f2 := frozen_of_row w10 g_s kk _ _ r_s
        have hki : (kk : Int) < (n : Int) := by omega
        have HSM2 := hide (saidM_set HSM.out hkS)
        have HCS := hide (fun h => count_set hkS h)
        have HSS := hide (fun h => set_same hkS h)
        obtain ⟨sb, hsb⟩ : ∃ b, b = S[kk] := ⟨_, rfl⟩
        rw [← hsb] at i2 HCS HSS
        clear hsb
        go_upto_region 18 with (fail)
        obtain ⟨S2, hS2⟩ : ∃ S2, S2 = S.set kk true := ⟨_, rfl⟩
        have HS2N : Hid (S2.length = n) := hide (by rw [hS2, List.length_set]; exact HSN.out)
        cases sb
        · have hc1 := HCS.out rfl
          rw [← hS2] at HSM2 hc1
          have hcc : ((S.count false : Nat) : Int) - 1 = ((S2.count false : Nat) : Int) := by omega
          have hcb : S.count false ≤ 16 := by have := List.count_le_length (a := false) (l := S); rw [HSN.out] at this; omega
          have hcp : 1 ≤ S.count false := by omega
          obtain ⟨c1, hc1e⟩ : ∃ c, c = S.count false := ⟨_, rfl⟩
          rw [← hc1e] at hcc hcb hcp ⊢
          have HCC := hide hcc
          clear hc1 hcc hc1e HCS HSS
          go_upto_region 20 with (fail)
          rw [setCell_eq_setRow w10 g_s kk (boolA S) 4 (0, 0) _ r_s, boolA_set, ← hS2]
          clear i2 f2 hS2
          obtain ⟨w11, hw11⟩ : ∃ W, W = w10.setRow g_s (boolA S2) := ⟨_, rfl⟩
          rw [← hw11]
          replace r_x : w11.heap[g_x]? = some (.cells M 34 (0, 0)) := by rw [hw11, setRow_other _ _ _ _ (by have := D_x_s.out; omega)]; exact r_x
          replace L_x : Hid (g_x < w11.heap.size) := hide (by rw [hw11, setRow_size]; exact L_x.out)
          replace r_s : w11.heap[g_s]? = some (.cells (boolA S2) 4 (0, 0)) := by rw [hw11]; exact setRow_heap _ _ _ _ _ _ r_s
          replace L_s : Hid (g_s < w11.heap.size) := hide (by rw [hw11, setRow_size]; exact L_s.out)
          replace r_y : w11.heap[g_y]? = some (.cells Y2 34 (0, 0)) := by rw [hw11, setRow_other _ _ _ _ (by have := D_s_y.out; omega)]; exact r_y
          replace L_y : Hid (g_y < w11.heap.size) := hide (by rw [hw11, setRow_size]; exact L_y.out)
          replace r_j : w11.heap[g_j]? = some (.cells J 34 (0, 0)) := by rw [hw11, setRow_other _ _ _ _ (by have := D_s_j.out; omega)]; exact r_j
          replace L_j : Hid (g_j < w11.heap.size) := hide (by rw [hw11, setRow_size]; exact L_j.out)
          replace HB0 : Hid (Below w.heap.size w w11) := hide (by rw [hw11]; exact below_setRow HB0.out G_s.out _)
          replace K_J := hide (KnV.setRow hw11 K_J.out N_K_J_s.out)
          clear hw11
          go_upto_region 21 with (fail)
          rw [HCC.out]
          obtain ⟨cl, hcl⟩ : ∃ c, c = S2.count false := ⟨_, rfl⟩
          rw [← hcl]
          have HCL := hide hcl
          clear hcl HCC
          go_upto_region 22 with (fail)
          obtain ⟨w12, hw12⟩ : ∃ W, W = w11.setRow g_x J := ⟨_, rfl⟩
          rw [← hw12]
          replace r_x : w12.heap[g_x]? = some (.cells J 34 (0, 0)) := by rw [hw12]; exact setRow_heap _ _ _ _ _ _ r_x
          replace L_x : Hid (g_x < w12.heap.size) := hide (by rw [hw12, setRow_size]; exact L_x.out)
          replace r_s : w12.heap[g_s]? = some (.cells (boolA S2) 4 (0, 0)) := by rw [hw12, setRow_other _ _ _ _ (by have := D_x_s.out; omega)]; exact r_s
          replace L_s : Hid (g_s < w12.heap.size) := hide (by rw [hw12, setRow_size]; exact L_s.out)
          replace r_y : w12.heap[g_y]? = some (.cells Y2 34 (0, 0)) := by rw [hw12, setRow_other _ _ _ _ (by have := D_x_y.out; omega)]; exact r_y
          replace L_y : Hid (g_y < w12.heap.size) := hide (by rw [hw12, setRow_size]; exact L_y.out)
          replace r_j : w12.heap[g_j]? = some (.cells J 34 (0, 0)) := by rw [hw12, setRow_other _ _ _ _ (by have := D_x_j.out; omega)]; exact r_j
          replace L_j : Hid (g_j < w12.heap.size) := hide (by rw [hw12, setRow_size]; exact L_j.out)
          replace HB0 : Hid (Below w.heap.size w w12) := hide (by rw [hw12]; exact below_setRow HB0.out G_x.out _)
          replace K_J := hide (KnV.setRow hw12 K_J.out N_K_J_x.out)
          clear hw12
          have HO : overK (withD k ((m ||| 2 ^ kk : Nat) : Int)) (n : Int) = decide (cl = 0) := by rw [HCL.out]; exact over_said HG.out.2 HG.out.1 HSM2.out (by rw [HS2N.out]; exact hn2) (by rw [HS2N.out]; exact hn1) _ (by rw [HS2N.out])
          have KO := overK_any w12 w12.heap.size J _ _ _ (n : Int) K_J.out (Nat.le_refl _)
          rw [HO] at KO
          have hz : ((cl : Int) == 0) = decide (cl = 0) := by by_cases e : cl = 0 <;> simp [e]
          obtain ⟨u, hu⟩ : ∃ u, u = decide (cl = 0) := ⟨_, rfl⟩
          rw [← hu] at KO hz
          clear HO hu
          go_wp2_with fail
          refine KO.mono ?_
          rintro e w13 ⟨rfl, bw⟩
          dsimp only
          replace r_x := (bw.block g_x L_x.out).trans r_x
          replace L_x := hide (Nat.lt_of_lt_of_le L_x.out bw.size)
          replace r_s := (bw.block g_s L_s.out).trans r_s
          replace L_s := hide (Nat.lt_of_lt_of_le L_s.out bw.size)
          replace r_y := (bw.block g_y L_y.out).trans r_y
          replace L_y := hide (Nat.lt_of_lt_of_le L_y.out bw.size)
          replace r_j := (bw.block g_j L_j.out).trans r_j
          replace L_j := hide (Nat.lt_of_lt_of_le L_j.out bw.size)
          replace K_J := hide ((K_J.out.below bw (Nat.le_refl _)).more bw.size)
          replace HB0 := hide (HB0.out.trans (bw.mono HB0.out.size))
          clear bw KO
          have HN : Hid (EaI w w13 g_x g_s k S2 (m ||| 2 ^ kk)) := hide ⟨⟨J, _, _, r_x, K_J.out, N_K_J_x.out, N_K_J_s.out⟩, r_s, HSM2.out, HB0.out, L_x.out, L_s.out⟩
          clear r_x r_s r_y r_j K_J s_J x_J o_J s_M
          go_wp2
          go_roundw
          case rel => exact ⟨j + 1, S2, m ||| 2 ^ kk, by omega, by go_num, HS2N.out, by rw [HCL.out], HN⟩
          case measure => simp [intOf]; omega
        · have e := HSS.out rfl
          rw [← hS2] at e HSM2
          subst e
          have HCC : Hid (((S2.count false : Nat) : Int) = ((S2.count false : Nat) : Int)) := hide rfl
          clear hS2 HCS HSS
          go_upto_region 21 with (fail)
          clear i2 f2
          obtain ⟨cl, hcl⟩ : ∃ c, c = S2.count false := ⟨_, rfl⟩
          rw [← hcl]
          have HCL := hide hcl
          clear hcl HCC
          go_upto_region 22 with (fail)
          obtain ⟨w14, hw14⟩ : ∃ W, W = w10.setRow g_x J := ⟨_, rfl⟩
          rw [← hw14]
          replace r_x : w14.heap[g_x]? = some (.cells J 34 (0, 0)) := by rw [hw14]; exact setRow_heap _ _ _ _ _ _ r_x
          replace L_x : Hid (g_x < w14.heap.size) := hide (by rw [hw14, setRow_size]; exact L_x.out)
          replace r_s : w14.heap[g_s]? = some (.cells (boolA S2) 4 (0, 0)) := by rw [hw14, setRow_other _ _ _ _ (by have := D_x_s.out; omega)]; exact r_s
          replace L_s : Hid (g_s < w14.heap.size) := hide (by rw [hw14, setRow_size]; exact L_s.out)
          replace r_y : w14.heap[g_y]? = some (.cells Y2 34 (0, 0)) := by rw [hw14, setRow_other _ _ _ _ (by have := D_x_y.out; omega)]; exact r_y
          replace L_y : Hid (g_y < w14.heap.size) := hide (by rw [hw14, setRow_size]; exact L_y.out)
          replace r_j : w14.heap[g_j]? = some (.cells J 34 (0, 0)) := by rw [hw14, setRow_other _ _ _ _ (by have := D_x_j.out; omega)]; exact r_j
          replace L_j : Hid (g_j < w14.heap.size) := hide (by rw [hw14, setRow_size]; exact L_j.out)
          replace HB0 : Hid (Below w.heap.size w w14) := hide (by rw [hw14]; exact below_setRow HB0.out G_x.out _)
          replace K_J := hide (KnV.setRow hw14 K_J.out N_K_J_x.out)
          clear hw14
          have HO : overK (withD k ((m ||| 2 ^ kk : Nat) : Int)) (n : Int) = decide (cl = 0) := by rw [HCL.out]; exact over_said HG.out.2 HG.out.1 HSM2.out (by rw [HS2N.out]; exact hn2) (by rw [HS2N.out]; exact hn1) _ (by rw [HS2N.out])
          have KO := overK_any w14 w14.heap.size J _ _ _ (n : Int) K_J.out (Nat.le_refl _)
          rw [HO] at KO
          have hz : ((cl : Int) == 0) = decide (cl = 0) := by by_cases e : cl = 0 <;> simp [e]
          obtain ⟨u, hu⟩ : ∃ u, u = decide (cl = 0) := ⟨_, rfl⟩
          rw [← hu] at KO hz
          clear HO hu
          go_wp2_with fail
          refine KO.mono ?_
          rintro e w15 ⟨rfl, bw⟩
          dsimp only
          replace r_x := (bw.block g_x L_x.out).trans r_x
          replace L_x := hide (Nat.lt_of_lt_of_le L_x.out bw.size)
          replace r_s := (bw.block g_s L_s.out).trans r_s
          replace L_s := hide (Nat.lt_of_lt_of_le L_s.out bw.size)
          replace r_y := (bw.block g_y L_y.out).trans r_y
          replace L_y := hide (Nat.lt_of_lt_of_le L_y.out bw.size)
          replace r_j := (bw.block g_j L_j.out).trans r_j
          replace L_j := hide (Nat.lt_of_lt_of_le L_j.out bw.size)
          replace K_J := hide ((K_J.out.below bw (Nat.le_refl _)).more bw.size)
          replace HB0 := hide (HB0.out.trans (bw.mono HB0.out.size))
          clear bw KO
          have HN : Hid (EaI w w15 g_x g_s k S2 (m ||| 2 ^ kk)) := hide ⟨⟨J, _, _, r_x, K_J.out, N_K_J_x.out, N_K_J_s.out⟩, r_s, HSM2.out, HB0.out, L_x.out, L_s.out⟩
          clear r_x r_s r_y r_j K_J s_J x_J o_J s_M
          go_wp2
          go_roundw
          case rel => exact ⟨j + 1, S2, m ||| 2 ^ kk, by omega, by go_num, HS2N.out, by rw [HCL.out], HN⟩
          case measure => simp [intOf]; omega
      · have hji : (j : Int) < (T : Int) := by omega
        go_wp2_with fail
        refine (knownL_any _).mono ?_
        rintro e wb ⟨rfl, bw⟩
        dsimp only
        have BA2 := hide (HB0.out.trans (bw.mono HB0.out.size))
        clear bw
        go_wp2
        go_ret
        exact ⟨rfl, BA2.out⟩
    · obtain rfl : j = T := by omega
      go_wp2_with fail
      refine (knownL_any _).mono ?_
      rintro e wb ⟨rfl, bw⟩
      dsimp only
      have BA2 := hide (HB0.out.trans (bw.mono HB0.out.size))
      clear bw
      go_wp2
      go_ret
      exact ⟨rfl, BA2.out⟩
end Go.Proofs.Ytmbddengmheeeaa
namespace Go.Proofs.Ytmbddengmheeeaa.lifeEachRow
open Go.ChangeShapes Go.WideShapes Go.ChangeAt Go.RowKit
set_option linter.unusedVariables false

set_option maxHeartbeats 2000000 in
set_option maxRecDepth 100000 in
theorem lifted (os : Os) (started : os.Started) (H : Type) (enc : TypeId × Value → H) :
    ReturnsInHanded {} Try.checked os 6 .any (Rows.lifeEachSpec.pre6 enc Try.prog Try.f6 Rows.lifeEachRow.domain false) (Rows.lifeEachSpec.post enc Try.prog Try.f6 false true false false) := by
  refine returnsInHanded_of_change_sized (C := Try.checked) ownK started (by kernel_rfl) Try.func6
    (ChangeSpec.witness6 (enc := enc) (C := Try.checked) false ⟨#[], #[.agg #[.int .i64 0, .int .i64 0, .int .i64 0, .int .i64 0, .bool false, .int .u8 0, .int .u8 0, .int .u8 0, .int .u8 0, .int .u8 0, .int .u8 0, .int .u8 0, .int .u8 0, .int .u8 0, .int .u8 0, .int .u8 0, .int .u8 0, .int .u8 0, .int .u8 0, .int .u8 0, .int .u8 0, .float .f64 0, .slice none 0 0, .int .i64 0], .int .i64 0, .slice none 0 0], []⟩ 8 (by kernel_rfl) (by kernel_rfl) (by kernel_rfl) (by kernel_rfl)) ?_
  intro W base args ds gs before hval0 hW hcnd hsz0 _
  have hval : ∀ (j : Nat) t v, Try.f6.params[j]? = some t → args[j]? = some v → Value.okWide Try.prog W .any base t v := hval0
  have hsz : (DataW.weightsEach Try.prog (Try.f6.params.toList ++ Rows.lifeEachSpec.plain.varTypes Try.prog) (ds ++ gs)).all (· ≤ reachBytes) = true := hsz0
  clear hsz0
  have hW' := hW
  obtain ⟨p, q, hA0, hV, rfl, hfz, hnd⟩ := hW
  have hA : DataW.TrodAll enc Try.prog W 0 (fun _ => true) true Try.f6.params.toList args.toList ds p := hA0
  rw [Try.params6] at hA hval hsz
  obtain ⟨v0, vs0, d0, ds0, p0, q0, hargs, rfl, rfl, h0, r0⟩ := trodAll_cons hA
  obtain ⟨v1, vs1, d1, ds1, p1, q1, rfl, rfl, rfl, h1, r1⟩ := trodAll_cons r0
  obtain ⟨v2, vs2, d2, ds2, p2, q2, rfl, rfl, rfl, h2, r2⟩ := trodAll_cons r1
  obtain ⟨rfl, rfl, rfl⟩ := trodAll_nil r2
  obtain rfl : args = #[v0, v1, v2] := by cases args; simp_all
  obtain ⟨rfl, rfl⟩ := trodVars_none hV
  have k0 := h0
  have lt0 : ∀ x ∈ p0, x.block < W.heap.size := by obtain ⟨m, hm⟩ := k0; exact DataW.trod_lt m _ _ _ hm
  obtain ⟨x0, q0_, va0, vc0, rfl, hX0, hL0⟩ := open_rec (hval 0 30 v0 rfl rfl) h0 (le_all hsz (j := 0) (t := 30) rfl rfl)
  obtain ⟨z1, rfl, rfl, rfl, wf1⟩ := open_int Try.underlying3 (hval 1 3 v1 rfl rfl) h1
  have bd1 := bounds_i64 wf1
  obtain ⟨a2, len2, c2, rfl⟩ := okWide_slice Try.underlying57 (hval 2 57 v2 rfl rfl)
  have k2 := h2
  have lt2 : ∀ x ∈ p2, x.block < W.heap.size := by obtain ⟨m, hm⟩ := k2; exact DataW.trod_lt m _ _ _ hm
  obtain ⟨l2, rfl, hl2, hc2, hb2, hn2⟩ := open_ints 140737488351232 h2 (fun elems spare e => sized_slice hsz (j := 2) (t := 57) (e := 3) rfl (by rw [e]; rfl) Try.underlying57)
  clear hA0 hval0
  refine (lifeEach_any W x0 q0_ va0 vc0 z1 a2 c2 l2 hX0 hL0 hb2 (by omega)).mono fun e W' ⟨he, bel⟩ => ?_
  subst he
  exact ⟨_, rfl, _, _, _, [], _, [], hW', trodAll_mk1 (shut_bool Try.underlying4 _), (trodAll_cons_mk (Below.trod laidOutK (by kernel_rfl) (of_decide_eq_true (by kernel_rfl)) k0 bel lt0) (trodAll_cons_mk (shut_int Try.underlying3 wf1) (trodAll_cons_mk (Below.trod laidOutK (by kernel_rfl) (of_decide_eq_true (by kernel_rfl)) k2 bel lt2) trodAll_mk0))), rfl, bel.frame _, fun h => by cases h⟩

theorem over : Rows.lifeEachRow.holds Try.pinned (OpenSpec.ofChange Rows.lifeEachSpec) :=
  OpenClaim.holds_of_wide 6 Try.f6 rfl rfl rfl rfl rfl rfl rfl ⟨rfl, rfl, rfl, rfl, rfl⟩ rfl rfl rfl rfl rfl (by kernel_rfl) Try.func6 (by kernel_rfl)
    (of_decide_eq_true (by kernel_rfl)) (by unfold Func.isWrapper; first | (rw [if_pos (by decide +kernel)]; kernel_rfl) | (rw [if_neg (by decide +kernel)]; exact ⟨rfl, rfl⟩))
    (fun os started H enc _ => lifted os started H enc)

theorem proved : Rows.LifeEachSaid := over
#print axioms proved
end Go.Proofs.Ytmbddengmheeeaa.lifeEachRow
