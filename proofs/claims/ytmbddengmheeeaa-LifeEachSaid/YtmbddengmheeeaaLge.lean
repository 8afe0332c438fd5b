/-
  The walk of the statement LifeVotes.
-/
import Derived.Test.YtmbddengmheeeaaLgc
import Derived.Test.YtmbddengmheeeaaLgd
import Derived.Test.YtmbddengmheeeaaLent
namespace Go.Proofs.Ytmbddengmheeeaa
open Go.RowKit
set_option maxRecDepth 100000
set_option linter.unusedVariables false
set_option linter.unusedSimpArgs false
attribute [local go_sem ↓] exec_span exec_put exec_build heap_alloc_new heap_old
attribute [local go_sem] spanQ_ptr spanC_some heap_of_drew heap_of_drewN rs_ad rs_spec rs_rec rs_rrec putAt_ptr putOk_ptr oldOk_some store_fl World.setRow_alloc_new

theorem votedOk_yes {k : Kn} (hk : okR k = true) (hg : k.g ≠ 0) {n : Nat} (hn : n < 16) {v : Int × Bool} (h1 : 1 ≤ v.1) (h2 : v.1 ≤ 1099511627776) : votedT k (n : Int) v = votedK k n v ∧ votedE k (n : Int) v = joinE k (withV k (loneV n v)) := by
  have h : votedOk k (n : Int) v = true := by
    unfold votedOk nodeB
    rw [okK_of hk hg, decide_eq_true (show 0 ≤ (n : Int) by omega), decide_eq_true (show (n : Int) < 16 by omega), decide_eq_true (show v.1 ≥ 1 from h1), decide_eq_true h2]; rfl
  unfold votedT votedE
  rw [if_pos h, if_pos h, if_neg hg, if_neg hg, Int.toNat_natCast]
  exact ⟨rfl, rfl⟩
theorem sameK_self (k : Kn) : sameK k k = true := (same_keyN k k).2 rfl
/-- the row of votes lies in another block. -/
def RowNe (va : Option Addr) (l : List (Int × Bool)) (g : Nat) : Prop := 0 < l.length → ∀ a, va = some a → a.block ≠ g
theorem RowNe.old {w : World} {B g : Nat} {X : Array Value} {k : Kn} {va : Option Addr} {vc : Nat} (h : KnV w B X k va vc) (hg : B ≤ g) : RowNe va k.vs g := fun hl a e => by
  obtain ⟨b, off, e', hb, _⟩ := h.vo hl
  rw [e] at e'
  cases e'
  show b ≠ g
  omega
theorem RowNe.own {w : World} {base n vc g : Nat} {va : Option Addr} {l : List (Int × Bool)} (h : OwnVo w base (.slice va n vc) l) (hg : g < base) : RowNe va l g := fun hl a e => by
  subst e
  have := (World.ownsRow.lt h a.block rfl).1
  omega
theorem KnV.setRow {w W : World} {g : Nat} {cs : Array Value} {X : Array Value} {k : Kn} {va : Option Addr} {vc : Nat} (e : W = w.setRow g cs) (h : KnV w w.heap.size X k va vc) (hn : RowNe va k.vs g) : KnV W W.heap.size X k va vc := by
  subst e
  refine ⟨h.rc, fun hl => ?_, h.sz, h.nn, h.cp⟩
  obtain ⟨b, off, ea, hb, hc⟩ := h.vo hl
  have hne : b ≠ g := hn hl _ ea
  have hk : ∀ i, (w.setRow g cs).cell? ⟨b, i, none⟩ = w.cell? ⟨b, i, none⟩ := fun i => by
    unfold World.cell?
    rw [setRow_other w g b cs hne]
  exact ⟨b, off, ea, by rw [setRow_size]; exact hb, fun i hi => ⟨(hk _).trans (hc i hi).1, (hk _).trans (hc i hi).2⟩⟩
/-- Voted where it can be: what is handed back. -/
theorem voted_kn (w : World) (X : Array Value) (k k' : Kn) (va : Option Addr) (vc n : Nat) (s : Int) (o : Bool) (h : KnV w w.heap.size X k va vc) (hk : okR k = true) (hg : k.g ≠ 0) (hn : n < 16) (h1 : 1 ≤ s) (h2 : s ≤ 1099511627776)
    (hr : votedK k n (s, o) = k' ∧ joinE k (withV k (loneV n (s, o))) = 0) :
    Calls Try.prog 16 #[.agg X, .int .i64 (n : Int), .agg #[.int .i64 s, .bool o]] w (fun e w' => ∃ J, e = .returned (.tuple #[.agg J, .int .i64 0]) ∧ ∃ va vc, KnV w' w'.heap.size J k' va vc ∧ (∀ g, g < w.heap.size → RowNe va k'.vs g) ∧ Below w.heap.size w w') :=
  (voted_any w X k va vc (n : Int) (s, o) h).mono fun e w' ⟨J, he, va, vc, hk2, ho2, hb'⟩ => by
    have hne : ∀ g, g < w.heap.size → RowNe va (votedT k (n : Int) (s, o)).vs g := fun g hg => RowNe.own ho2 hg
    obtain ⟨e1, e2⟩ := votedOk_yes hk hg hn (v := (s, o)) h1 h2
    rw [e2, hr.2] at he
    rw [e1, hr.1] at hk2 hne
    exact ⟨J, he, va, vc, hk2, hne, hb'⟩
theorem built_v1 (s : Int) : Try.prog.built 46 [(0, .int .i64 s)] = some #[.int .i64 s, .bool false] := by kernel_rfl
theorem built_v2 (s : Int) (o : Bool) : Try.prog.built 46 [(0, .int .i64 s), (1, .bool o)] = some #[.int .i64 s, .bool o] := by kernel_rfl
theorem kn_bare {w : World} {B : Nat} {X : Array Value} {k : Kn} {va : Option Addr} {vc : Nat} (h : RcV X (k.rc va vc)) : KnV w B (X.setIfInBounds 22 (.slice none 0 0)) (withV k []) none 0 := by
  refine ⟨?_, VoS.nil _ _ _, by show ([] : List (Int × Bool)).length ≤ _; simp, fun _ => rfl, Nat.zero_le _⟩
  refine ⟨?_, h.la, h.wf⟩
  rw [h.eq, List.setIfInBounds_toArray]
  congr 1
  have hl := len_spL h.la
  simp only [Kn.rc] at hl
  simp only [rcL, Kn.rc, List.set_cons_succ]
  rw [List.set_append_right _ _ (by omega), hl]; rfl
/-- what the memory holds behind j rounds. -/
structure VtI (w wr : World) (g : Nat) (k : Kn) : Prop where
  row : ∃ M v c, wr.heap[g]? = some (.cells M 34 (0, 0)) ∧ KnV wr wr.heap.size M k v c ∧ RowNe v k.vs g
  bel : Below w.heap.size w wr
  lt : g < wr.heap.size
set_option maxHeartbeats 16000000 in
theorem lifeVotes_any (w : World) (X : Array Value) (k : Kn) (va : Option Addr) (ca : Nat) (nodes a b : Int) (hk : KnV w w.heap.size X k va ca) (hl : k.vs.length ≤ 8796093022208) :
    Calls Try.prog 5 #[.agg X, .int .i64 nodes, .int .i64 a, .int .i64 b] w (fun e w' => e = .returned (.bool true) ∧ Below w.heap.size w w') := by
  have HB0 := hide (Below.refl w.heap.size w)
  have K_X := hide hk
  have LX := hide hl
  clear hk hl
  have s_X := K_X.out.rc.size
  have x_X := K_X.out.rc.x0
  have o_X := K_X.out.rc.one
  have GVB := built_v1 b
  have GVA := built_v2 a true
  go_enter Try.func5, Try.ntmps5
  go_upto_region 1 with (fail)
  change Code.wp _ _ _ _ (w.alloc (.cells X 30))
  obtain ⟨w1, hw1, r_X, z1, b1⟩ := alloc_nam w (.cells X 30)
  rw [hw1]
  have L_X := hide (show w.heap.size < w1.heap.size by omega)
  have G'_X := HB0.out.size
  replace K_X := hide ((K_X.out.below b1 (Nat.le_refl _)).more b1.size)
  replace HB0 := hide (HB0.out.trans (b1.mono HB0.out.size))
  obtain ⟨g_X, hg1⟩ : ∃ g, g = w.heap.size := ⟨_, rfl⟩
  have G_X : Hid (w.heap.size ≤ g_X) := hide (by rw [hg1]; exact G'_X)
  clear G'_X
  rw [← hg1] at r_X L_X
  rw [← hg1]
  clear hw1 b1
  clear z1 hg1
  go_wp2_with fail
  refine (given_kn w1 X _ _ _ K_X.out LX.out).mono ?_
  rintro e w2 ⟨M, rfl, v_M, c_M, k_M, b_M⟩
  dsimp only
  replace r_X := (b_M.block g_X L_X.out).trans r_X
  replace L_X := hide (Nat.lt_of_lt_of_le L_X.out b_M.size)
  replace K_X := hide ((K_X.out.below b_M (Nat.le_refl _)).more b_M.size)
  replace HB0 := hide (HB0.out.trans (b_M.mono HB0.out.size))
  have K_M := hide k_M
  have s_M := K_M.out.rc.size
  have x_M := K_M.out.rc.x0
  have o_M := K_M.out.rc.one
  clear k_M b_M r_X L_X K_X LX s_X x_X o_X
  go_upto_region 2 with (fail)
  obtain ⟨w3, hw3, r_x, z3, b3⟩ := alloc_nam w2 (.cells M 34)
  rw [hw3]
  have L_x := hide (show w2.heap.size < w3.heap.size by omega)
  have G'_x := HB0.out.size
  replace K_M := hide ((K_M.out.below b3 (Nat.le_refl _)).more b3.size)
  replace HB0 := hide (HB0.out.trans (b3.mono HB0.out.size))
  obtain ⟨g_x, hg3⟩ : ∃ g, g = w2.heap.size := ⟨_, rfl⟩
  have G_x : Hid (w.heap.size ≤ g_x) := hide (by rw [hg3]; exact G'_x)
  clear G'_x
  rw [← hg3] at r_x L_x ⊢
  clear hw3 z3 b3 hg3
  have FB := hide HB0.out
  have HF : Hid (∀ (p : BW w3) (w' : World), Below p.w.heap.size p.w w' → Below w.heap.size w w') := hide fun p w' hb => FB.out.trans ((p.below.trans (hb.mono p.below.size)).mono FB.out.size)
  have KR := hide (fun p : BW w3 => rightK_any p.w w3.heap.size M k _ _ (K_M.out.below p.below (Nat.le_refl _)) p.below.size)
  have R_x : ∀ p : BW w3, p.w.heap[g_x]? = some (.cells M 34 (0, 0)) := fun p => p.block r_x
  obtain ⟨c0, -, -, -⟩ := K_M.out.rc.cells r_x
  simp only [Kn.rc] at c0
  obtain ⟨kg, hkg⟩ : ∃ x, x = k.g := ⟨_, rfl⟩
  rw [← hkg] at c0
  have C0 : ∀ p : BW w3, p.w.cell? ⟨g_x, 0, none⟩ = some (.int .i64 kg) := fun p => p.cell c0
  clear c0
  obtain ⟨qk, hqk⟩ : ∃ q, q = okK k := ⟨_, rfl⟩
  rw [← hqk] at KR
  obtain ⟨q0, hq0⟩ : ∃ q, q = (kg == 0) := ⟨_, rfl⟩
  have tq0 := hq0.symm
  obtain ⟨q1, hq1⟩ : ∃ q, q = decide (a < 1) := ⟨_, rfl⟩
  have tq1 := hq1.symm
  obtain ⟨q2, hq2⟩ : ∃ q, q = decide (b ≤ a) := ⟨_, rfl⟩
  have tq2 := hq2.symm
  obtain ⟨q3, hq3⟩ : ∃ q, q = decide (1099511627776 < b) := ⟨_, rfl⟩
  have tq3 := hq3.symm
  have tq3' : decide (b > 1099511627776) = q3 := tq3
  have QQ := hide (And.intro hqk (And.intro hkg (And.intro hq0 (And.intro hq1 (And.intro hq2 hq3)))))
  clear hqk hkg hq0 hq1 hq2 hq3
  cases qk
  · first | refine wp_region_belowS w3 (Below.refl _ _) ?_ | refine wp_region_below w3 (Below.refl _ _) (by kernel_rfl) (by kernel_rfl) ?_
    repeat
      first
      | (go_big_quiet_step (first
      | ((go_at_call 11; with_reducible exact Calls.bel (KR.out _)))
      | fail))
      | (go_big_quiet_want; apply quiet_span; (intro p; go_simp; rfl); (try simp only [Act.put, List.setIfInBounds_toArray, List.set_cons_zero, List.set_cons_succ]); go_big_quiet_on)
    refine wpQuiet_nil ?_
    intro _ hw'
    obtain ⟨pq, hw''⟩ := hw'
    subst hw''
    go_wp2_with fail
    refine (knownL_any pq.w).mono ?_
    rintro e wk ⟨rfl, bk⟩
    dsimp only
    have HK := hide (HF.out pq wk bk)
    clear bk
    go_wp2
    go_ret
    exact ⟨rfl, HK.out⟩
  cases q0
  case true =>
    first | refine wp_region_belowS w3 (Below.refl _ _) ?_ | refine wp_region_below w3 (Below.refl _ _) (by kernel_rfl) (by kernel_rfl) ?_
    repeat
      first
      | (go_big_quiet_step (first
      | ((go_at_call 11; with_reducible exact Calls.bel (KR.out _)))
      | fail))
      | (go_big_quiet_want; apply quiet_span; (intro p; go_simp; rfl); (try simp only [Act.put, List.setIfInBounds_toArray, List.set_cons_zero, List.set_cons_succ]); go_big_quiet_on)
    refine wpQuiet_nil ?_
    intro _ hw'
    obtain ⟨pq, hw''⟩ := hw'
    subst hw''
    go_wp2_with fail
    refine (knownL_any pq.w).mono ?_
    rintro e wk ⟨rfl, bk⟩
    dsimp only
    have HK := hide (HF.out pq wk bk)
    clear bk
    go_wp2
    go_ret
    exact ⟨rfl, HK.out⟩
  cases q1
  case true =>
    first | refine wp_region_belowS w3 (Below.refl _ _) ?_ | refine wp_region_below w3 (Below.refl _ _) (by kernel_rfl) (by kernel_rfl) ?_
    repeat
      first
      | (go_big_quiet_step (first
      | ((go_at_call 11; with_reducible exact Calls.bel (KR.out _)))
      | fail))
      | (go_big_quiet_want; apply quiet_span; (intro p; go_simp; rfl); (try simp only [Act.put, List.setIfInBounds_toArray, List.set_cons_zero, List.set_cons_succ]); go_big_quiet_on)
    refine wpQuiet_nil ?_
    intro _ hw'
    obtain ⟨pq, hw''⟩ := hw'
    subst hw''
    go_wp2_with fail
    refine (knownL_any pq.w).mono ?_
    rintro e wk ⟨rfl, bk⟩
    dsimp only
    have HK := hide (HF.out pq wk bk)
    clear bk
    go_wp2
    go_ret
    exact ⟨rfl, HK.out⟩
  cases q2
  case true =>
    first | refine wp_region_belowS w3 (Below.refl _ _) ?_ | refine wp_region_below w3 (Below.refl _ _) (by kernel_rfl) (by kernel_rfl) ?_
    repeat
      first
      | (go_big_quiet_step (first
      | ((go_at_call 11; with_reducible exact Calls.bel (KR.out _)))
      | fail))
      | (go_big_quiet_want; apply quiet_span; (intro p; go_simp; rfl); (try simp only [Act.put, List.setIfInBounds_toArray, List.set_cons_zero, List.set_cons_succ]); go_big_quiet_on)
    refine wpQuiet_nil ?_
    intro _ hw'
    obtain ⟨pq, hw''⟩ := hw'
    subst hw''
    go_wp2_with fail
    refine (knownL_any pq.w).mono ?_
    rintro e wk ⟨rfl, bk⟩
    dsimp only
    have HK := hide (HF.out pq wk bk)
    clear bk
    go_wp2
    go_ret
    exact ⟨rfl, HK.out⟩
  cases q3
  case true =>
    first | refine wp_region_belowS w3 (Below.refl _ _) ?_ | refine wp_region_below w3 (Below.refl _ _) (by kernel_rfl) (by kernel_rfl) ?_
    repeat
      first
      | (go_big_quiet_step (first
      | ((go_at_call 11; with_reducible exact Calls.bel (KR.out _)))
      | fail))
      | (go_big_quiet_want; apply quiet_span; (intro p; go_simp; rfl); (try simp only [Act.put, List.setIfInBounds_toArray, List.set_cons_zero, List.set_cons_succ]); go_big_quiet_on)
    refine wpQuiet_nil ?_
    intro _ hw'
    obtain ⟨pq, hw''⟩ := hw'
    subst hw''
    go_wp2_with fail
    refine (knownL_any pq.w).mono ?_
    rintro e wk ⟨rfl, bk⟩
    dsimp only
    have HK := hide (HF.out pq wk bk)
    clear bk
    go_wp2
    go_ret
    exact ⟨rfl, HK.out⟩
  first | refine wp_region_belowS w3 (Below.refl _ _) ?_ | refine wp_region_below w3 (Below.refl _ _) (by kernel_rfl) (by kernel_rfl) ?_
  repeat
    first
    | (go_big_quiet_step (first
    | ((go_at_call 11; with_reducible exact Calls.bel (KR.out _)))
    | fail))
    | (go_big_quiet_want; apply quiet_span; (intro p; go_simp; rfl); (try simp only [Act.put, List.setIfInBounds_toArray, List.set_cons_zero, List.set_cons_succ]); go_big_quiet_on)
  refine wpQuiet_nil ?_
  intro _ hw'
  obtain ⟨pq, hw''⟩ := hw'
  subst hw''
  obtain ⟨hk1, hk2, h0, h1, h2, h3⟩ := QQ.out
  have HG : Hid (k.g > 0 ∧ okR k = true ∧ 1 ≤ a ∧ a < b ∧ b ≤ 1099511627776) := hide (by
    have e0 : k.g ≠ 0 := by rw [← hk2]; simpa using h0.symm
    have e1 := okK_pos hk1.symm e0
    have e2 := of_decide_eq_false h1.symm
    have e3 := of_decide_eq_false h2.symm
    have e4 := of_decide_eq_false h3.symm
    refine ⟨?_, e1, by omega, by omega, by omega⟩
    unfold okR at e1
    simp only [Bool.and_eq_true, decide_eq_true_eq] at e1
    exact e1.1)
  clear hk1 hk2 h0 h1 h2 h3 QQ tq0 tq1 tq2 tq3 tq3' KR R_x C0 HF FB
  obtain ⟨w20, hw20⟩ : ∃ w1, w1 = pq.w := ⟨_, rfl⟩
  have b20 := pq.below
  rw [← hw20] at b20 ⊢
  replace r_x := (b20.block g_x L_x.out).trans r_x
  replace L_x := hide (Nat.lt_of_lt_of_le L_x.out b20.size)
  replace K_M := hide ((K_M.out.below b20 (Nat.le_refl _)).more b20.size)
  replace HB0 := hide (HB0.out.trans (b20.mono HB0.out.size))
  clear b20 hw20 pq
  go_wp2_with fail
  refine (count_any nodes 16 _ (by decide) (by decide)).mono ?_
  rintro e w21 ⟨rfl, rfl⟩
  dsimp only
  obtain ⟨n, hn⟩ : ∃ n, n = 1 + countS nodes 16 := ⟨_, rfl⟩
  have hn1 : 1 ≤ n := by omega
  have hn2 : n ≤ 16 := by have := count_lt nodes (show 0 < 16 by decide); omega
  have hn3 : (1 : Int) + (countS nodes 16 : Nat) = (n : Int) := by omega
  obtain ⟨cn, hcn⟩ : ∃ c, c = countS nodes 16 := ⟨_, rfl⟩
  rw [← hcn] at hn3 ⊢
  clear hn hcn
  have c22 := (K_M.out.rc.cells r_x).2.2.1
  simp only [Kn.rc] at c22
  have f22 := frozen_of_row w20 g_x 22 _ _ r_x
  go_upto_region 6 with (fail)
  rw [setCell_eq_setRow w20 g_x 22 M 34 (0, 0) _ r_x]
  have KB0 := kn_bare (w := w20) (B := w20.heap.size) K_M.out.rc
  obtain ⟨Y, hY⟩ : ∃ Y, Y = M.setIfInBounds 22 (.slice none 0 0) := ⟨_, rfl⟩
  rw [← hY] at KB0 ⊢
  have YRC := KB0.rc
  clear c22 f22 KB0 hY
  clear K_M s_M x_M o_M
  obtain ⟨w4, hw4⟩ : ∃ W, W = w20.setRow g_x Y := ⟨_, rfl⟩
  rw [← hw4]
  replace r_x : w4.heap[g_x]? = some (.cells Y 34 (0, 0)) := by rw [hw4]; exact setRow_heap _ _ _ _ _ _ r_x
  replace L_x : Hid (g_x < w4.heap.size) := hide (by rw [hw4, setRow_size]; exact L_x.out)
  replace HB0 : Hid (Below w.heap.size w w4) := hide (by rw [hw4]; exact below_setRow HB0.out G_x.out _)
  clear hw4
  have KY : Hid (KnV w4 w4.heap.size Y (repV k 0 b) none 0) := hide ⟨YRC, VoS.nil _ _ _, by show ([] : List (Int × Bool)).length ≤ _; simp, fun _ => rfl, Nat.zero_le _⟩
  clear YRC
  have HS0 : Hid (VtI w w4 g_x (repV k 0 b)) := hide ⟨⟨Y, none, 0, r_x, KY.out, fun _ a e => by cases e⟩, HB0.out, L_x.out⟩
  clear KY r_x L_x HB0
  go_wp2
  go_loopw [11] (fun i wr => ∃ j : Nat, j ≤ n ∧ i = .int .i64 (j : Int) ∧ Hid (VtI w wr g_x (repV k j b))) (fun i _ => n - (intOf i).toNat)
  case atStart => exact ⟨0, by omega, rfl, HS0⟩
  case round =>
    obtain ⟨j, hj, rfl, hI⟩ := hrel
    obtain ⟨M, vM, cM, r_x, kM, nM⟩ := hI.out.row
    have N_K_M_x := hide nM
    have K_M := hide kM
    have L_x := hide hI.out.lt
    have HB0 := hide hI.out.bel
    clear kM nM hI
    have s_M := K_M.out.rc.size
    have x_M := K_M.out.rc.x0
    have o_M := K_M.out.rc.one
    have KW := wellK_any wr wr.heap.size M _ vM cM (n : Int) K_M.out (Nat.le_refl _)
    rw [well_rep HG.out.2.1 HG.out.1 hn2 hn1 hj (by have := HG.out; omega) HG.out.2.2.2.2] at KW
    obtain ⟨u, hu⟩ : ∃ u, u = decide (2 * (j : Int) < (n : Int)) := ⟨_, rfl⟩
    rw [← hu] at KW
    have tu := hu.symm
    by_cases hlt : j < n
    · have hji : (j : Int) < (n : Int) := by omega
      clear hu
      go_wp2_with fail
      refine KW.mono ?_
      rintro e w5 ⟨rfl, bw⟩
      dsimp only
      replace r_x := (bw.block g_x L_x.out).trans r_x
      replace L_x := hide (Nat.lt_of_lt_of_le L_x.out bw.size)
      replace K_M := hide ((K_M.out.below bw (Nat.le_refl _)).more bw.size)
      replace HB0 := hide (HB0.out.trans (bw.mono HB0.out.size))
      clear bw KW
      go_upto_region 11 with (fail)
      have hj16 : j < 16 := by omega
      go_wp2_with fail
      refine (voted_kn w5 M (repV k j b) (repV k (j + 1) b) _ _ j b false K_M.out (okR_repV HG.out.2.1 (by omega) (by have := HG.out; omega) HG.out.2.2.2.2) (by show k.g ≠ 0; have := HG.out.1; omega) hj16 (by have := HG.out; omega) (by have := HG.out; omega) (voted_b HG.out.2.1 (by have := HG.out.1; omega) hj16 (by have := HG.out; omega) HG.out.2.2.2.2)).mono ?_
      rintro e w6 ⟨N1, rfl, v_N1, c_N1, k_N1, n_N1, b_N1⟩
      dsimp only
      have N_K_N1_x := hide (n_N1 _ L_x.out)
      clear n_N1
      replace r_x := (b_N1.block g_x L_x.out).trans r_x
      replace L_x := hide (Nat.lt_of_lt_of_le L_x.out b_N1.size)
      replace K_M := hide ((K_M.out.below b_N1 (Nat.le_refl _)).more b_N1.size)
      replace HB0 := hide (HB0.out.trans (b_N1.mono HB0.out.size))
      have K_N1 := hide k_N1
      have s_N1 := K_N1.out.rc.size
      have x_N1 := K_N1.out.rc.x0
      have o_N1 := K_N1.out.rc.one
      clear k_N1 b_N1
      go_upto_region 12 with (fail)
      obtain ⟨w7, hw7, r_y, z7, b7⟩ := alloc_nam w6 (.cells N1 34)
      rw [hw7]
      have L_y := hide (show w6.heap.size < w7.heap.size by omega)
      have G'_y := HB0.out.size
      have D_x_y := L_x
      replace r_x := (b7.block g_x L_x.out).trans r_x
      replace L_x := hide (Nat.lt_of_lt_of_le L_x.out b7.size)
      replace K_M := hide ((K_M.out.below b7 (Nat.le_refl _)).more b7.size)
      replace K_N1 := hide ((K_N1.out.below b7 (Nat.le_refl _)).more b7.size)
      replace HB0 := hide (HB0.out.trans (b7.mono HB0.out.size))
      obtain ⟨g_y, hg7⟩ : ∃ g, g = w6.heap.size := ⟨_, rfl⟩
      have G_y : Hid (w.heap.size ≤ g_y) := hide (by rw [hg7]; exact G'_y)
      clear G'_y
      rw [← hg7] at r_y L_y D_x_y ⊢
      clear hw7 z7 b7 hg7
      go_wp2_with fail
      refine (voted_kn w7 N1 (repV k (j + 1) b) (repV k (j + 1) b) _ _ j a true K_N1.out (okR_repV HG.out.2.1 (by omega) (by have := HG.out; omega) HG.out.2.2.2.2) (by show k.g ≠ 0; have := HG.out.1; omega) hj16 (by have := HG.out; omega) (by have := HG.out; omega) (voted_ba HG.out.2.1 (by have := HG.out.1; omega) hj16 HG.out.2.2.1 HG.out.2.2.2.1 HG.out.2.2.2.2)).mono ?_
      rintro e w8 ⟨N2, rfl, v_N2, c_N2, k_N2, n_N2, b_N2⟩
      dsimp only
      have N_K_N2_x := hide (n_N2 _ L_x.out)
      clear n_N2
      replace r_x := (b_N2.block g_x L_x.out).trans r_x
      replace L_x := hide (Nat.lt_of_lt_of_le L_x.out b_N2.size)
      replace r_y := (b_N2.block g_y L_y.out).trans r_y
      replace L_y := hide (Nat.lt_of_lt_of_le L_y.out b_N2.size)
      replace K_M := hide ((K_M.out.below b_N2 (Nat.le_refl _)).more b_N2.size)
      replace K_N1 := hide ((K_N1.out.below b_N2 (Nat.le_refl _)).more b_N2.size)
      replace HB0 := hide (HB0.out.trans (b_N2.mono HB0.out.size))
      have K_N2 := hide k_N2
      have s_N2 := K_N2.out.rc.size
      have x_N2 := K_N2.out.rc.x0
      have o_N2 := K_N2.out.rc.one
      clear k_N2 b_N2
      go_upto_region 13 with (fail)
      obtain ⟨w9, hw9, r_z, z9, b9⟩ := alloc_nam w8 (.cells N2 34)
      rw [hw9]
      have L_z := hide (show w8.heap.size < w9.heap.size by omega)
      have G'_z := HB0.out.size
      have D_x_z := L_x
      have D_y_z := L_y
      have N_K_M_z := hide (RowNe.old K_M.out (Nat.le_refl _))
      have N_K_N1_z := hide (RowNe.old K_N1.out (Nat.le_refl _))
      have N_K_N2_z := hide (RowNe.old K_N2.out (Nat.le_refl _))
      replace r_x := (b9.block g_x L_x.out).trans r_x
      replace L_x := hide (Nat.lt_of_lt_of_le L_x.out b9.size)
      replace r_y := (b9.block g_y L_y.out).trans r_y
      replace L_y := hide (Nat.lt_of_lt_of_le L_y.out b9.size)
      replace K_M := hide ((K_M.out.below b9 (Nat.le_refl _)).more b9.size)
      replace K_N1 := hide ((K_N1.out.below b9 (Nat.le_refl _)).more b9.size)
      replace K_N2 := hide ((K_N2.out.below b9 (Nat.le_refl _)).more b9.size)
      replace HB0 := hide (HB0.out.trans (b9.mono HB0.out.size))
      obtain ⟨g_z, hg9⟩ : ∃ g, g = w8.heap.size := ⟨_, rfl⟩
      have G_z : Hid (w.heap.size ≤ g_z) := hide (by rw [hg9]; exact G'_z)
      clear G'_z
      rw [← hg9] at r_z L_z D_x_z D_y_z N_K_M_z N_K_N1_z N_K_N2_z ⊢
      clear hw9 z9 b9 hg9
      have FS : Hid (∀ p : BW w9, Calls Try.prog 14 #[.agg N1, .agg N2] p.w (BoolP p.w true)) := hide fun p => by
        have := sameK_any p.w w9.heap.size N1 N2 (repV k (j + 1) b) (repV k (j + 1) b) _ _ _ _ (K_N1.out.below p.below (Nat.le_refl _)) (K_N2.out.below p.below (Nat.le_refl _)) p.below.size
        rwa [sameK_self] at this
      have R_y : ∀ p : BW w9, p.w.heap[g_y]? = some (.cells N1 34 (0, 0)) := fun p => p.block r_y
      have R_z : ∀ p : BW w9, p.w.heap[g_z]? = some (.cells N2 34 (0, 0)) := fun p => p.block r_z
      first | refine wp_region_belowS w9 (Below.refl _ _) ?_ | refine wp_region_below w9 (Below.refl _ _) (by kernel_rfl) (by kernel_rfl) ?_
      repeat
        first
        | (go_big_quiet_step (first
        | ((go_at_call 14; with_reducible exact Calls.bel (FS.out _)))
        | fail))
        | (go_big_quiet_want; apply quiet_span; (intro p; go_simp; rfl); (try simp only [Act.put, List.setIfInBounds_toArray, List.set_cons_zero, List.set_cons_succ]); go_big_quiet_on)
      refine wpQuiet_nil ?_
      intro _ hw'
      obtain ⟨pq, hw''⟩ := hw'
      subst hw''
      clear FS R_y R_z
      obtain ⟨w10, hq⟩ : ∃ w1, w1 = pq.w := ⟨_, rfl⟩
      have bq := pq.below
      rw [← hq] at bq ⊢
      replace r_x := (bq.block g_x L_x.out).trans r_x
      replace L_x := hide (Nat.lt_of_lt_of_le L_x.out bq.size)
      replace r_y := (bq.block g_y L_y.out).trans r_y
      replace L_y := hide (Nat.lt_of_lt_of_le L_y.out bq.size)
      replace r_z := (bq.block g_z L_z.out).trans r_z
      replace L_z := hide (Nat.lt_of_lt_of_le L_z.out bq.size)
      replace K_M := hide ((K_M.out.below bq (Nat.le_refl _)).more bq.size)
      replace K_N1 := hide ((K_N1.out.below bq (Nat.le_refl _)).more bq.size)
      replace K_N2 := hide ((K_N2.out.below bq (Nat.le_refl _)).more bq.size)
      replace HB0 := hide (HB0.out.trans (bq.mono HB0.out.size))
      clear bq hq pq
      go_upto_region 15 with (fail)
      go_wp2_with fail
      refine (voted_kn w10 M (repV k j b) (repZ k j a b) _ _ j a true K_M.out (okR_repV HG.out.2.1 (by omega) (by have := HG.out; omega) HG.out.2.2.2.2) (by show k.g ≠ 0; have := HG.out.1; omega) hj16 (by have := HG.out; omega) (by have := HG.out; omega) (voted_a HG.out.2.1 (by have := HG.out.1; omega) hj16 HG.out.2.2.1 HG.out.2.2.2.1 HG.out.2.2.2.2)).mono ?_
      rintro e w11 ⟨N3, rfl, v_N3, c_N3, k_N3, n_N3, b_N3⟩
      dsimp only
      have N_K_N3_x := hide (n_N3 _ L_x.out)
      have N_K_N3_z := hide (n_N3 _ L_z.out)
      clear n_N3
      replace r_x := (b_N3.block g_x L_x.out).trans r_x
      replace L_x := hide (Nat.lt_of_lt_of_le L_x.out b_N3.size)
      replace r_y := (b_N3.block g_y L_y.out).trans r_y
      replace L_y := hide (Nat.lt_of_lt_of_le L_y.out b_N3.size)
      replace r_z := (b_N3.block g_z L_z.out).trans r_z
      replace L_z := hide (Nat.lt_of_lt_of_le L_z.out b_N3.size)
      replace K_M := hide ((K_M.out.below b_N3 (Nat.le_refl _)).more b_N3.size)
      replace K_N1 := hide ((K_N1.out.below b_N3 (Nat.le_refl _)).more b_N3.size)
      replace K_N2 := hide ((K_N2.out.below b_N3 (Nat.le_refl _)).more b_N3.size)
      replace HB0 := hide (HB0.out.trans (b_N3.mono HB0.out.size))
      have K_N3 := hide k_N3
      have s_N3 := K_N3.out.rc.size
      have x_N3 := K_N3.out.rc.x0
      have o_N3 := K_N3.out.rc.one
      clear k_N3 b_N3
      go_upto_region 16 with (fail)
      obtain ⟨w12, hw12⟩ : ∃ W, W = w11.setRow g_z N3 := ⟨_, rfl⟩
      rw [← hw12]
      replace r_x : w12.heap[g_x]? = some (.cells M 34 (0, 0)) := by rw [hw12, setRow_other _ _ _ _ (by have := D_x_z.out; omega)]; exact r_x
      replace L_x : Hid (g_x < w12.heap.size) := hide (by rw [hw12, setRow_size]; exact L_x.out)
      replace r_y : w12.heap[g_y]? = some (.cells N1 34 (0, 0)) := by rw [hw12, setRow_other _ _ _ _ (by have := D_y_z.out; omega)]; exact r_y
      replace L_y : Hid (g_y < w12.heap.size) := hide (by rw [hw12, setRow_size]; exact L_y.out)
      replace r_z : w12.heap[g_z]? = some (.cells N3 34 (0, 0)) := by rw [hw12]; exact setRow_heap _ _ _ _ _ _ r_z
      replace L_z : Hid (g_z < w12.heap.size) := hide (by rw [hw12, setRow_size]; exact L_z.out)
      replace HB0 : Hid (Below w.heap.size w w12) := hide (by rw [hw12]; exact below_setRow HB0.out G_z.out _)
      replace K_M := hide (KnV.setRow hw12 K_M.out N_K_M_z.out)
      replace K_N1 := hide (KnV.setRow hw12 K_N1.out N_K_N1_z.out)
      replace K_N2 := hide (KnV.setRow hw12 K_N2.out N_K_N2_z.out)
      replace K_N3 := hide (KnV.setRow hw12 K_N3.out N_K_N3_z.out)
      clear hw12
      go_wp2_with fail
      refine (voted_kn w12 N3 (repZ k j a b) (repV k (j + 1) b) _ _ j b false K_N3.out (okR_repZ HG.out.2.1 hj16 HG.out.2.2.1 HG.out.2.2.2.1 HG.out.2.2.2.2) (by show k.g ≠ 0; have := HG.out.1; omega) hj16 (by have := HG.out; omega) (by have := HG.out; omega) (voted_ab HG.out.2.1 (by have := HG.out.1; omega) hj16 HG.out.2.2.1 HG.out.2.2.2.1 HG.out.2.2.2.2)).mono ?_
      rintro e w13 ⟨N4, rfl, v_N4, c_N4, k_N4, n_N4, b_N4⟩
      dsimp only
      have N_K_N4_x := hide (n_N4 _ L_x.out)
      have N_K_N4_z := hide (n_N4 _ L_z.out)
      clear n_N4
      replace r_x := (b_N4.block g_x L_x.out).trans r_x
      replace L_x := hide (Nat.lt_of_lt_of_le L_x.out b_N4.size)
      replace r_y := (b_N4.block g_y L_y.out).trans r_y
      replace L_y := hide (Nat.lt_of_lt_of_le L_y.out b_N4.size)
      replace r_z := (b_N4.block g_z L_z.out).trans r_z
      replace L_z := hide (Nat.lt_of_lt_of_le L_z.out b_N4.size)
      replace K_M := hide ((K_M.out.below b_N4 (Nat.le_refl _)).more b_N4.size)
      replace K_N1 := hide ((K_N1.out.below b_N4 (Nat.le_refl _)).more b_N4.size)
      replace K_N2 := hide ((K_N2.out.below b_N4 (Nat.le_refl _)).more b_N4.size)
      replace K_N3 := hide ((K_N3.out.below b_N4 (Nat.le_refl _)).more b_N4.size)
      replace HB0 := hide (HB0.out.trans (b_N4.mono HB0.out.size))
      have K_N4 := hide k_N4
      have s_N4 := K_N4.out.rc.size
      have x_N4 := K_N4.out.rc.x0
      have o_N4 := K_N4.out.rc.one
      clear k_N4 b_N4
      go_upto_region 17 with (fail)
      obtain ⟨w14, hw14, r_w, z14, b14⟩ := alloc_nam w13 (.cells N4 34)
      rw [hw14]
      have L_w := hide (show w13.heap.size < w14.heap.size by omega)
      have G'_w := HB0.out.size
      have D_x_w := L_x
      have D_y_w := L_y
      have D_z_w := L_z
      replace r_x := (b14.block g_x L_x.out).trans r_x
      replace L_x := hide (Nat.lt_of_lt_of_le L_x.out b14.size)
      replace r_y := (b14.block g_y L_y.out).trans r_y
      replace L_y := hide (Nat.lt_of_lt_of_le L_y.out b14.size)
      replace r_z := (b14.block g_z L_z.out).trans r_z
      replace L_z := hide (Nat.lt_of_lt_of_le L_z.out b14.size)
      replace K_M := hide ((K_M.out.below b14 (Nat.le_refl _)).more b14.size)
      replace K_N1 := hide ((K_N1.out.below b14 (Nat.le_refl _)).more b14.size)
      replace K_N2 := hide ((K_N2.out.below b14 (Nat.le_refl _)).more b14.size)
      replace K_N3 := hide ((K_N3.out.below b14 (Nat.le_refl _)).more b14.size)
      replace K_N4 := hide ((K_N4.out.below b14 (Nat.le_refl _)).more b14.size)
      replace HB0 := hide (HB0.out.trans (b14.mono HB0.out.size))
      obtain ⟨g_w, hg14⟩ : ∃ g, g = w13.heap.size := ⟨_, rfl⟩
      have G_w : Hid (w.heap.size ≤ g_w) := hide (by rw [hg14]; exact G'_w)
      clear G'_w
      rw [← hg14] at r_w L_w D_x_w D_y_w D_z_w ⊢
      clear hw14 z14 b14 hg14
      have FS : Hid (∀ p : BW w14, Calls Try.prog 14 #[.agg N4, .agg N1] p.w (BoolP p.w true)) := hide fun p => by
        have := sameK_any p.w w14.heap.size N4 N1 (repV k (j + 1) b) (repV k (j + 1) b) _ _ _ _ (K_N4.out.below p.below (Nat.le_refl _)) (K_N1.out.below p.below (Nat.le_refl _)) p.below.size
        rwa [sameK_self] at this
      have R_w : ∀ p : BW w14, p.w.heap[g_w]? = some (.cells N4 34 (0, 0)) := fun p => p.block r_w
      have R_y : ∀ p : BW w14, p.w.heap[g_y]? = some (.cells N1 34 (0, 0)) := fun p => p.block r_y
      first | refine wp_region_belowS w14 (Below.refl _ _) ?_ | refine wp_region_below w14 (Below.refl _ _) (by kernel_rfl) (by kernel_rfl) ?_
      repeat
        first
        | (go_big_quiet_step (first
        | ((go_at_call 14; with_reducible exact Calls.bel (FS.out _)))
        | fail))
        | (go_big_quiet_want; apply quiet_span; (intro p; go_simp; rfl); (try simp only [Act.put, List.setIfInBounds_toArray, List.set_cons_zero, List.set_cons_succ]); go_big_quiet_on)
      refine wpQuiet_nil ?_
      intro _ hw'
      obtain ⟨pq, hw''⟩ := hw'
      subst hw''
      clear FS R_w R_y
      obtain ⟨w15, hq⟩ : ∃ w1, w1 = pq.w := ⟨_, rfl⟩
      have bq := pq.below
      rw [← hq] at bq ⊢
      replace r_x := (bq.block g_x L_x.out).trans r_x
      replace L_x := hide (Nat.lt_of_lt_of_le L_x.out bq.size)
      replace r_y := (bq.block g_y L_y.out).trans r_y
      replace L_y := hide (Nat.lt_of_lt_of_le L_y.out bq.size)
      replace r_z := (bq.block g_z L_z.out).trans r_z
      replace L_z := hide (Nat.lt_of_lt_of_le L_z.out bq.size)
      replace r_w := (bq.block g_w L_w.out).trans r_w
      replace L_w := hide (Nat.lt_of_lt_of_le L_w.out bq.size)
      replace K_M := hide ((K_M.out.below bq (Nat.le_refl _)).more bq.size)
      replace K_N1 := hide ((K_N1.out.below bq (Nat.le_refl _)).more bq.size)
      replace K_N2 := hide ((K_N2.out.below bq (Nat.le_refl _)).more bq.size)
      replace K_N3 := hide ((K_N3.out.below bq (Nat.le_refl _)).more bq.size)
      replace K_N4 := hide ((K_N4.out.below bq (Nat.le_refl _)).more bq.size)
      replace HB0 := hide (HB0.out.trans (bq.mono HB0.out.size))
      clear bq hq pq
      go_upto_region 19 with (fail)
      go_upto_region 8 with (fail)
      obtain ⟨w16, hw16⟩ : ∃ W, W = w15.setRow g_x N1 := ⟨_, rfl⟩
      rw [← hw16]
      replace r_x : w16.heap[g_x]? = some (.cells N1 34 (0, 0)) := by rw [hw16]; exact setRow_heap _ _ _ _ _ _ r_x
      replace L_x : Hid (g_x < w16.heap.size) := hide (by rw [hw16, setRow_size]; exact L_x.out)
      replace r_y : w16.heap[g_y]? = some (.cells N1 34 (0, 0)) := by rw [hw16, setRow_other _ _ _ _ (by have := D_x_y.out; omega)]; exact r_y
      replace L_y : Hid (g_y < w16.heap.size) := hide (by rw [hw16, setRow_size]; exact L_y.out)
      replace r_z : w16.heap[g_z]? = some (.cells N3 34 (0, 0)) := by rw [hw16, setRow_other _ _ _ _ (by have := D_x_z.out; omega)]; exact r_z
      replace L_z : Hid (g_z < w16.heap.size) := hide (by rw [hw16, setRow_size]; exact L_z.out)
      replace r_w : w16.heap[g_w]? = some (.cells N4 34 (0, 0)) := by rw [hw16, setRow_other _ _ _ _ (by have := D_x_w.out; omega)]; exact r_w
      replace L_w : Hid (g_w < w16.heap.size) := hide (by rw [hw16, setRow_size]; exact L_w.out)
      replace HB0 : Hid (Below w.heap.size w w16) := hide (by rw [hw16]; exact below_setRow HB0.out G_x.out _)
      replace K_M := hide (KnV.setRow hw16 K_M.out N_K_M_x.out)
      replace K_N1 := hide (KnV.setRow hw16 K_N1.out N_K_N1_x.out)
      replace K_N2 := hide (KnV.setRow hw16 K_N2.out N_K_N2_x.out)
      replace K_N3 := hide (KnV.setRow hw16 K_N3.out N_K_N3_x.out)
      replace K_N4 := hide (KnV.setRow hw16 K_N4.out N_K_N4_x.out)
      clear hw16
      have HN : Hid (VtI w w16 g_x (repV k (j + 1) b)) := hide ⟨⟨N1, _, _, r_x, K_N1.out, N_K_N1_x.out⟩, HB0.out, L_x.out⟩
      clear r_x r_y r_z r_w K_N1 K_M K_N2 K_N3 K_N4 s_N2 s_N3 s_N4 x_N2 x_N3 x_N4 o_N2 o_N3 o_N4
      go_wp2
      go_roundw
      case rel => exact ⟨j + 1, by omega, by go_num, HN⟩
      case measure => simp [intOf]; omega
    · obtain rfl : j = n := by omega
      have tf : decide (2 * (j : Int) < (j : Int)) = false := decide_eq_false (by omega)
      rw [tf] at hu
      subst hu
      clear tu tf
      go_wp2_with fail
      refine KW.mono ?_
      rintro e wa ⟨rfl, bw⟩
      dsimp only
      have BA := hide (HB0.out.trans (bw.mono HB0.out.size))
      clear bw KW
      go_wp2_with fail
      refine (knownL_any _).mono ?_
      rintro e wb ⟨rfl, bw⟩
      dsimp only
      have BA2 := hide (BA.out.trans (bw.mono BA.out.size))
      clear bw
      go_wp2
      go_ret
      exact ⟨rfl, BA2.out⟩
end Go.Proofs.Ytmbddengmheeeaa
