import Derived.Test.YtjppmalcaogpiaaWp
namespace Go.Proofs.Ytjppmalcaogpiaa
open Go.RowKit
attribute [local go_sem] ord_none_lt ord_none_gt ord_none_eq ord_none_ne ord_lt_lt ord_lt_gt ord_lt_eq ord_lt_ne ord_gt_lt ord_gt_gt ord_gt_eq ord_gt_ne ord_eq_lt ord_eq_gt ord_eq_eq ord_eq_ne store_fl unary_negF
/-- the slice that begins at A reads, in world w and below block B, as the floats l. -/
def FlS (w : World) (B : Nat) (A : Option Addr) (l : List Nat) : Prop :=
  (∀ x ∈ l, x < 2 ^ 64) ∧ (0 < l.length → ∃ b off, A = some ⟨b, off, none⟩ ∧ b < B ∧ ∀ i (h : i < l.length), w.cell? ⟨b, off + i, none⟩ = some (.float .f64 l[i]))
theorem FlS.nil (w : World) (B : Nat) (A : Option Addr) : FlS w B A [] := ⟨fun x h => absurd h (by simp), fun h => absurd h (by simp)⟩
theorem FlS.keep {w w' : World} {B : Nat} {A : Option Addr} {l : List Nat} (h : FlS w B A l) (hk : ∀ p : Addr, p.block < B → w'.cell? p = w.cell? p) : FlS w' B A l := ⟨h.1, fun hl => by
  obtain ⟨b, off, e, hb, hc⟩ := h.2 hl
  exact ⟨b, off, e, hb, fun i hi => (hk _ hb).trans (hc i hi)⟩⟩
theorem FlS.more {w : World} {B B' : Nat} {A : Option Addr} {l : List Nat} (h : FlS w B A l) (hB : B ≤ B') : FlS w B' A l := ⟨h.1, fun hl => by
  obtain ⟨b, off, e, hb, hc⟩ := h.2 hl
  exact ⟨b, off, e, by omega, hc⟩⟩
theorem FlS.below {w w' : World} {B C : Nat} {A : Option Addr} {l : List Nat} (h : FlS w B A l) (hb : Below C w w') (hC : B ≤ C) : FlS w' B A l := h.keep fun _ hp => hb.cell (by omega)

/-- what the cell holds that the index j names. -/
theorem FlS.at {w : World} {B : Nat} {A : Option Addr} {l : List Nat} (h : FlS w B A l) {j : Nat} (hj : j < l.length) :
    ∃ b off x, A = some ⟨b, off, none⟩ ∧ b < B ∧ x = l[j] ∧ x < 2 ^ 64 ∧ w.cell? ⟨b, off + j, none⟩ = some (.float .f64 x) := by
  obtain ⟨b, off, e, hb, hc⟩ := h.2 (by omega)
  exact ⟨b, off, l[j], e, hb, rfl, h.1 _ (List.getElem_mem hj), hc j hj⟩

/-- the greatest one of those that count. -/
def bestF (l : List Nat) : Nat := l.foldl (fun s x => max s (clF x)) 0
theorem bestF_snoc (l : List Nat) (x : Nat) : bestF (l ++ [x]) = max (bestF l) (clF x) := by unfold bestF; rw [List.foldl_append]; rfl
theorem bestF_take {l : List Nat} {j : Nat} (h : j < l.length) : bestF (l.take (j + 1)) = max (bestF (l.take j)) (clF l[j]) := by
  rw [List.take_succ_eq_append_getElem h, bestF_snoc]
theorem foldl_max_le (l : List Nat) (s : Nat) (h : s ≤ fMost) : l.foldl (fun s x => max s (clF x)) s ≤ fMost := by
  induction l generalizing s with
  | nil => exact h
  | cons a l ih => exact ih _ (Nat.max_le.2 ⟨h, clF_le a⟩)
theorem bestF_le (l : List Nat) : bestF l ≤ fMost := foldl_max_le l 0 (Nat.zero_le _)
theorem bestF_lt (l : List Nat) : bestF l < fI := by have := bestF_le l; have := fMost_I; omega

theorem run_max {P : Program} (ats : Array TypeId) (t : TypeId) {x y : Nat} (hx : x ≤ fI) (hy : y ≤ fI) (w : World) : (Builtin.max_ ats t #[.float .f64 x, .float .f64 y]).run P w = .ok (.float .f64 (max x y)) w := by
  rcases Nat.lt_trichotomy x y with h | h | h
  · have ho := order_lt hy h
    simp [Builtin.max_, Builtin.max2, ho]; omega
  · subst h
    have ho := order_eq hx rfl
    simp [Builtin.max_, Builtin.max2, ho]
  · have ho := order_gt hx h
    simp [Builtin.max_, Builtin.max2, ho]; omega
theorem run_min {P : Program} (ats : Array TypeId) (t : TypeId) {x y : Nat} (hx : x ≤ fI) (hy : y ≤ fI) (w : World) : (Builtin.min_ ats t #[.float .f64 x, .float .f64 y]).run P w = .ok (.float .f64 (min x y)) w := by
  rcases Nat.lt_trichotomy x y with h | h | h
  · have ho := order_lt hy h
    simp [Builtin.min_, Builtin.min2, ho]; omega
  · subst h
    have ho := order_eq hx rfl
    simp [Builtin.min_, Builtin.min2, ho]
  · have ho := order_gt hx h
    simp [Builtin.min_, Builtin.min2, ho]; omega

set_option maxHeartbeats 1000000 in
theorem best_any (A : Option Addr) (c : Nat) (l : List Nat) (B : Nat) (w : World) (hl : l.length ≤ 140737488355328) (hB : B ≤ w.heap.size) (hb : FlS w B A l) :
    Calls Try.prog 19 #[.slice A l.length c] w fun e w' => e = .returned (.float .f64 (bestF l)) ∧ Below w.heap.size w w' := by
  obtain ⟨n, hn⟩ : ∃ n, n = l.length := ⟨_, rfl⟩
  rw [← hn] at hl ⊢
  have hlen := hide hn
  have HF := hide hb
  clear hn hb
  go_enter Try.func19, Try.ntmps19
  go_wp2
  go_loopw [3, 8] (fun u v wr => ∃ (s j : Nat), j ≤ n ∧ u = .float .f64 s ∧ v = .int .i64 (j : Int) ∧ Hid (s = bestF (l.take j)) ∧ Hid (Below w.heap.size w wr)) (fun _ v _ => n - (intOf v).toNat)
  case atStart => exact ⟨0, 0, by omega, rfl, rfl, hide rfl, hide (Below.refl _ _)⟩
  case round =>
    obtain ⟨s, j, hj, rfl, rfl, hs, hbel⟩ := hrel
    by_cases hlt : j < n
    · obtain ⟨b, off, x, rfl, hbB, hx, hx64, hcell⟩ := (HF.out.below hbel.out hB).at (j := j) (by have := hlen.out; omega)
      have HS : Hid (max s (clF x) = bestF (l.take (j + 1))) := by rw [hs.out, hx]; exact (bestF_take (by have := hlen.out; omega)).symm
      have s1 : s ≤ fI := by rw [hs.out]; exact Nat.le_of_lt (bestF_lt _)
      have hmx := fun W => run_max (P := Try.prog) #[22, 22] 22 s1 (Nat.le_of_lt (clF_lt x)) W
      obtain ⟨m, hm⟩ : ∃ m, m = max s (clF x) := ⟨_, rfl⟩
      obtain ⟨cx, hcx⟩ : ∃ cx, clF x = cx := ⟨_, rfl⟩
      have CX := hide (fun w => clean_at x w hx64 hcx)
      rw [hcx] at hmx hm HS
      rw [← hm] at hmx HS
      clear hs hx s1 hm hcx
      go_wp2_with (first | ((with_reducible refine (CX.out _).mono ?_); rintro e w1 ⟨rfl, B1⟩) | fail)
      go_roundw
      case rel => exact ⟨m, j + 1, by omega, rfl, by go_num, HS, hide (hbel.out.trans (B1.mono hbel.out.size))⟩
      case measure => simp [intOf]; omega
    · obtain rfl : j = n := by omega
      have H : Hid (s = bestF l) := by rw [hs.out, List.take_of_length_le (by have := hlen.out; omega)]; exact rfl
      clear hlt hs
      go_wp2
      go_ret
      exact ⟨ret_fl H.out, hbel.out⟩
set_option maxHeartbeats 1000000 in
theorem refbest_any (A : Option Addr) (c : Nat) (l : List Nat) (B : Nat) (w : World) (hl : l.length ≤ 140737488355328) (hb : FlS w B A l) :
    Calls Try.prog 21 #[.slice A l.length c] w fun e w' => e = .returned (.float .f64 (bestF l)) ∧ w = w' := by
  obtain ⟨n, hn⟩ : ∃ n, n = l.length := ⟨_, rfl⟩
  rw [← hn] at hl ⊢
  have hlen := hide hn
  have HF := hide hb
  clear hn hb
  go_enter Try.func21, Try.ntmps21
  go_wp2
  go_loop [3, 4] (fun u v => ∃ (s j : Nat), j ≤ n ∧ u = .float .f64 s ∧ v = .int .i64 (j : Int) ∧ Hid (s = bestF (l.take j))) (fun _ v => n - (intOf v).toNat)
  case atStart => exact ⟨0, 0, by omega, rfl, rfl, hide rfl⟩
  case round =>
    obtain ⟨s, j, hj, rfl, rfl, hs⟩ := hrel
    by_cases hlt : j < n
    · obtain ⟨b, off, x, rfl, hbB, hx, hx64, hcell⟩ := HF.out.at (j := j) (by have := hlen.out; omega)
      have HS : Hid (max s (clF x) = bestF (l.take (j + 1))) := by rw [hs.out, hx]; exact (bestF_take (by have := hlen.out; omega)).symm
      have s1 : s ≤ fI := by rw [hs.out]; exact Nat.le_of_lt (bestF_lt _)
      obtain ⟨cx, hcx⟩ : ∃ cx, clF x = cx := ⟨_, rfl⟩
      have c1 : cx ≤ fI := by rw [← hcx]; exact Nat.le_of_lt (clF_lt _)
      have CX := hide (fun w => refclean_at x w hx64 hcx)
      rw [hcx] at HS
      clear hs hx hcx
      by_cases hlt2 : s < cx
      · have ho := order_gt c1 hlt2
        have HS2 : Hid (cx = bestF (l.take (j + 1))) := by rw [← HS.out]; exact (Nat.max_eq_right (by omega)).symm
        clear s1 c1 HS hlt2
        go_wp2_with (first | ((with_reducible refine (CX.out _).mono ?_); rintro e w1 ⟨rfl, rfl⟩) | fail)
        go_round
        case rel => exact ⟨cx, j + 1, by omega, rfl, by go_num, HS2⟩
        case measure => simp [intOf]; omega
      · have ho : (FloatKind.f64.format.order cx s == some .gt) = false := by
          rcases Nat.lt_or_eq_of_le (Nat.le_of_not_lt hlt2) with h | h
          · rw [order_lt s1 h]; rfl
          · rw [order_eq c1 h]; rfl
        have HS2 : Hid (s = bestF (l.take (j + 1))) := by rw [← HS.out]; exact (Nat.max_eq_left (by omega)).symm
        clear s1 c1 HS hlt2
        go_wp2_with (first | ((with_reducible refine (CX.out _).mono ?_); rintro e w1 ⟨rfl, rfl⟩) | fail)
        go_round
        case rel => exact ⟨s, j + 1, by omega, rfl, by go_num, HS2⟩
        case measure => simp [intOf]; omega
    · obtain rfl : j = n := by omega
      have H : Hid (s = bestF l) := by rw [hs.out, List.take_of_length_le (by have := hlen.out; omega)]; exact rfl
      clear hlt hs
      go_wp2
      go_ret
      exact ⟨ret_fl H.out, rfl⟩

/-- two floats that are not below 0 added. -/
def addF (x y : Nat) : Nat := (Ieee.double.add x y).getD 0
theorem add_inf {y : Nat} (hy : y < fI) : Ieee.double.add fI y = some fI := by
  have hI := fI_val
  obtain ⟨n, f, g1, _, _⟩ := read_num (b := y) (by rw [fR_of (by omega)]; exact hy)
  have h1 : Ieee.double.read fI = .infinity false := by
    rw [read_inf (fR_of (by omega)), fS_of (by omega)]
  unfold Ieee.Format.add
  rw [h1, g1]
  rfl
theorem addF_facts {x y : Nat} (hx : x ≤ fI) (hy : y < fI) : Ieee.double.add x y = some (addF x y) ∧ addF x y ≤ fI ∧ x ≤ addF x y ∧ y ≤ addF x y := by
  rcases Nat.lt_or_eq_of_le hx with h | rfl
  · obtain ⟨R, h1, h2, h3⟩ := add_pos h hy
    have e : addF x y = R := by unfold addF; rw [h1]; rfl
    rw [e]
    refine ⟨h1, h2, ?_, ?_⟩
    · exact RS.mono (by omega) (by omega) (RS.exact1 hx) h3 (by omega)
    · exact RS.mono (by omega) (by omega) (RS.exact1 (Nat.le_of_lt hy)) h3 (by omega)
  · have h1 := add_inf hy
    have e : addF fI y = fI := by unfold addF; rw [h1]; rfl
    rw [e]
    exact ⟨h1, Nat.le_refl _, Nat.le_refl _, Nat.le_of_lt hy⟩
/-- the sum ahead of its end. -/
def sumF (l : List Nat) : Nat := l.foldl (fun s x => addF s (clF x)) 0
theorem sumF_snoc (l : List Nat) (x : Nat) : sumF (l ++ [x]) = addF (sumF l) (clF x) := by unfold sumF; rw [List.foldl_append]; rfl
theorem sumF_take {l : List Nat} {j : Nat} (h : j < l.length) : sumF (l.take (j + 1)) = addF (sumF (l.take j)) (clF l[j]) := by
  rw [List.take_succ_eq_append_getElem h, sumF_snoc]
theorem foldl_add_le (l : List Nat) (s : Nat) (h : s ≤ fI) : l.foldl (fun s x => addF s (clF x)) s ≤ fI := by
  induction l generalizing s with
  | nil => exact h
  | cons a l ih => exact ih _ (addF_facts h (clF_lt a)).2.1
theorem sumF_le (l : List Nat) : sumF l ≤ fI := foldl_add_le l 0 (Nat.zero_le _)
theorem best_le_sum (l : List Nat) (a b : Nat) (hab : a ≤ b) (hb : b ≤ fI) : l.foldl (fun s x => max s (clF x)) a ≤ l.foldl (fun s x => addF s (clF x)) b := by
  induction l generalizing a b with
  | nil => exact hab
  | cons x l ih =>
    obtain ⟨_, h2, h3, h4⟩ := addF_facts hb (clF_lt x)
    exact ih _ _ (Nat.max_le.2 ⟨Nat.le_trans hab h3, h4⟩) h2
theorem bestF_le_sumF (l : List Nat) : bestF l ≤ min (sumF l) fMost := by
  have h1 := best_le_sum l 0 0 (Nat.le_refl _) (Nat.zero_le _)
  have h2 := bestF_le l
  exact Nat.le_min.2 ⟨h1, h2⟩
theorem clF_pos {x : Nat} (h : x ≤ fI) : clF x = min x fMost := by
  obtain ⟨h1, h2⟩ := pos_rs h
  unfold clF; rw [h1, h2, if_neg (by omega)]; rfl
/-- the document's sum is cut at each step. -/
theorem clF_add {s x : Nat} (hs : s ≤ fI) (hx : x < fI) : clF (addF (min s fMost) x) = min (addF s x) fMost := by
  have hM := fMost_I
  obtain ⟨_, h2, h3, h4⟩ := addF_facts hs hx
  rcases Nat.lt_or_eq_of_le hs with h | rfl
  · rw [Nat.min_eq_left (by omega), clF_pos h2]
  · obtain ⟨_, g2, g3, g4⟩ := addF_facts (x := fMost) (by omega) hx
    rw [Nat.min_eq_right (by omega), clF_pos g2, Nat.min_eq_right g3, Nat.min_eq_right (by omega)]

set_option maxHeartbeats 1000000 in
theorem sum_any (A : Option Addr) (c : Nat) (l : List Nat) (B : Nat) (w : World) (hl : l.length ≤ 140737488355328) (hB : B ≤ w.heap.size) (hb : FlS w B A l) :
    Calls Try.prog 20 #[.slice A l.length c] w fun e w' => e = .returned (.float .f64 (min (sumF l) fMost)) ∧ Below w.heap.size w w' := by
  obtain ⟨n, hn⟩ : ∃ n, n = l.length := ⟨_, rfl⟩
  rw [← hn] at hl ⊢
  have hlen := hide hn
  have HF := hide hb
  clear hn hb
  go_enter Try.func20, Try.ntmps20
  go_wp2
  go_loopw [3, 8] (fun u v wr => ∃ (s j : Nat), j ≤ n ∧ u = .float .f64 s ∧ v = .int .i64 (j : Int) ∧ Hid (s = sumF (l.take j)) ∧ Hid (Below w.heap.size w wr)) (fun _ v _ => n - (intOf v).toNat)
  case atStart => exact ⟨0, 0, by omega, rfl, rfl, hide rfl, hide (Below.refl _ _)⟩
  case round =>
    obtain ⟨s, j, hj, rfl, rfl, hs, hbel⟩ := hrel
    by_cases hlt : j < n
    · obtain ⟨b, off, x, rfl, hbB, hx, hx64, hcell⟩ := (HF.out.below hbel.out hB).at (j := j) (by have := hlen.out; omega)
      have HS : Hid (addF s (clF x) = sumF (l.take (j + 1))) := by rw [hs.out, hx]; exact (sumF_take (by have := hlen.out; omega)).symm
      have s1 : s ≤ fI := by rw [hs.out]; exact sumF_le _
      have hq := fun W => run_fl (P := Try.prog) .add 22 (addF_facts s1 (clF_lt x)).1 W
      obtain ⟨m, hm⟩ : ∃ m, m = addF s (clF x) := ⟨_, rfl⟩
      obtain ⟨cx, hcx⟩ : ∃ cx, clF x = cx := ⟨_, rfl⟩
      have CX := hide (fun w => clean_at x w hx64 hcx)
      rw [hcx] at hq hm HS
      rw [← hm] at hq HS
      clear hs hx s1 hm hcx
      go_wp2_with (first | ((with_reducible refine (CX.out _).mono ?_); rintro e w1 ⟨rfl, B1⟩) | fail)
      go_roundw
      case rel => exact ⟨m, j + 1, by omega, rfl, by go_num, HS, hide (hbel.out.trans (B1.mono hbel.out.size))⟩
      case measure => simp [intOf]; omega
    · obtain rfl : j = n := by omega
      have H : Hid (s = sumF l) := by rw [hs.out, List.take_of_length_le (by have := hlen.out; omega)]; exact rfl
      have s1 : s ≤ fI := by rw [hs.out]; exact sumF_le _
      have hmn := fun W => run_min (P := Try.prog) #[22, 22] 22 s1 (y := 9218868437227405311) (by rw [fI_val]; omega) W
      clear hlt hs s1
      go_wp2
      go_ret
      exact ⟨ret_fl (by rw [H.out]; rfl), hbel.out⟩

set_option maxHeartbeats 1000000 in
theorem refsum_any (A : Option Addr) (c : Nat) (l : List Nat) (B : Nat) (w : World) (hl : l.length ≤ 140737488355328) (hb : FlS w B A l) :
    Calls Try.prog 22 #[.slice A l.length c] w fun e w' => e = .returned (.float .f64 (min (sumF l) fMost)) ∧ w = w' := by
  obtain ⟨n, hn⟩ : ∃ n, n = l.length := ⟨_, rfl⟩
  rw [← hn] at hl ⊢
  have hlen := hide hn
  have HF := hide hb
  clear hn hb
  go_enter Try.func22, Try.ntmps22
  go_wp2
  go_loop [3, 4] (fun u v => ∃ (s j : Nat), j ≤ n ∧ u = .float .f64 s ∧ v = .int .i64 (j : Int) ∧ Hid (s = min (sumF (l.take j)) fMost)) (fun _ v => n - (intOf v).toNat)
  case atStart => exact ⟨0, 0, by omega, rfl, rfl, hide rfl⟩
  case round =>
    obtain ⟨s, j, hj, rfl, rfl, hs⟩ := hrel
    by_cases hlt : j < n
    · obtain ⟨b, off, x, rfl, hbB, hx, hx64, hcell⟩ := HF.out.at (j := j) (by have := hlen.out; omega)
      have HS : Hid (clF (addF s (clF x)) = min (sumF (l.take (j + 1))) fMost) := by
        refine hide ?_
        rw [hs.out, hx, sumF_take (by have := hlen.out; omega)]
        exact clF_add (sumF_le _) (clF_lt _)
      have s1 : s ≤ fI := by rw [hs.out]; have := fMost_I; omega
      have hf := addF_facts s1 (clF_lt x)
      have hq := fun W => run_fl (P := Try.prog) .add 22 hf.1 W
      have hm64 : addF s (clF x) < 2 ^ 64 := by have := hf.2.1; rw [fI_val] at this; omega
      obtain ⟨m, hm⟩ : ∃ m, addF s (clF x) = m := ⟨_, rfl⟩
      obtain ⟨cx, hcx⟩ : ∃ cx, clF x = cx := ⟨_, rfl⟩
      obtain ⟨cm, hcm⟩ : ∃ cm, clF m = cm := ⟨_, rfl⟩
      have CX := hide (fun w => refclean_at x w hx64 hcx)
      rw [hm] at hm64 hq HS
      have CM := hide (fun w => refclean_at m w hm64 hcm)
      rw [hcx] at hq
      rw [hcm] at HS
      clear hs hx s1 hm hcx hf hcm hm64
      go_wp2_with (first | ((with_reducible refine (CX.out _).mono ?_); rintro e w1 ⟨rfl, rfl⟩) | ((with_reducible refine (CM.out _).mono ?_); rintro e w1 ⟨rfl, rfl⟩) | fail)
      go_round
      case rel => exact ⟨cm, j + 1, by omega, rfl, by go_num, HS⟩
      case measure => simp [intOf]; omega
    · obtain rfl : j = n := by omega
      have H : Hid (s = min (sumF l) fMost) := by rw [hs.out, List.take_of_length_le (by have := hlen.out; omega)]; exact rfl
      clear hlt hs
      go_wp2
      go_ret
      exact ⟨ret_fl H.out, rfl⟩
end Go.Proofs.Ytjppmalcaogpiaa
