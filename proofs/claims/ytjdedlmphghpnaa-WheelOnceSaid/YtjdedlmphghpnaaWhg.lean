/-
  A place looked up among things that are due, as the library does it, by the order's function; a copy of such a row.
-/
import Derived.Test.YtjdedlmphghpnaaWhf
namespace Go.Proofs.Ytjdedlmphghpnaa
open Go.RowKit Go.Sort
set_option maxRecDepth 100000
set_option linter.unusedVariables false
set_option linter.unusedSimpArgs false
attribute [local go_sem ↓] exec_span exec_put exec_build heap_alloc_new heap_old
attribute [local go_sem] spanQ_ptr spanC_some heap_of_drew heap_of_drewN putAt_ptr putOk_ptr oldOk_some World.setRow_alloc_new

/-- things that are due, as cells. -/
def rowD : List (Int × Int) → List Value
  | [] => []
  | p :: t => .int .i64 p.1 :: .int .i64 p.2 :: rowD t
theorem rowD_len : ∀ (l : List (Int × Int)), (rowD l).length = l.length * 2
  | [] => rfl
  | p :: t => by simp [rowD, rowD_len t]; omega
theorem rowD_app : ∀ (l m : List (Int × Int)), rowD (l ++ m) = rowD l ++ rowD m
  | [], m => rfl
  | p :: t, m => by simp [rowD, rowD_app t m]
theorem rowD_take : ∀ (l : List (Int × Int)) (k : Nat), rowD (l.take k) = (rowD l).take (k * 2)
  | [], k => by simp [rowD]
  | p :: t, 0 => by simp [rowD]
  | p :: t, k + 1 => by rw [List.take_succ_cons, rowD, rowD, rowD_take t k, show (k + 1) * 2 = k * 2 + 1 + 1 by omega, List.take_succ_cons, List.take_succ_cons]
theorem rowD_drop : ∀ (l : List (Int × Int)) (k : Nat), rowD (l.drop k) = (rowD l).drop (k * 2)
  | [], k => by simp [rowD]
  | p :: t, 0 => by simp [rowD]
  | p :: t, k + 1 => by rw [List.drop_succ_cons, rowD, rowD_drop t k, show (k + 1) * 2 = k * 2 + 1 + 1 by omega, List.drop_succ_cons, List.drop_succ_cons]
theorem rowD_one : ∀ (l : List (Int × Int)), ∀ u ∈ rowD l, u.oneCell' = true
  | [], u, h => by simp [rowD] at h
  | p :: t, u, h => by
    simp only [rowD, List.mem_cons] at h
    rcases h with rfl | rfl | h
    · rfl
    · rfl
    · exact rowD_one t u h
theorem rowD_at : ∀ (l : List (Int × Int)) (j : Nat) (p : Int × Int), l[j]? = some p → (rowD l)[j * 2]? = some (.int .i64 p.1) ∧ (rowD l)[j * 2 + 1]? = some (.int .i64 p.2)
  | [], j, p, h => by simp at h
  | q :: t, 0, p, h => by simp at h; subst h; exact ⟨rfl, rfl⟩
  | q :: t, j + 1, p, h => by
    have := rowD_at t j p (by simpa using h)
    rw [show (j + 1) * 2 = j * 2 + 1 + 1 by omega]
    simpa [rowD] using this
/-- an element of a row, whole. -/
theorem rowD_span {X : Array Value} {n : Nat} {l : List (Int × Int)} (h : X.toList.take (n * 2) = rowD l) {j : Nat} {p : Int × Int} (hj : l[j]? = some p) : j * 2 + 2 ≤ X.size ∧ X.extract (j * 2) (j * 2 + 2) = #[.int .i64 p.1, .int .i64 p.2] := by
  obtain ⟨h1, h2⟩ := rowD_at l j p hj
  rw [← h, List.getElem?_take] at h1 h2
  have c1 : j * 2 < n * 2 := by
    rcases Nat.lt_or_ge (j * 2) (n * 2) with h | h
    · exact h
    · rw [if_neg (by omega)] at h1; cases h1
  have c2 : j * 2 + 1 < n * 2 := by
    rcases Nat.lt_or_ge (j * 2 + 1) (n * 2) with h | h
    · exact h
    · rw [if_neg (by omega)] at h2; cases h2
  rw [if_pos c1] at h1
  rw [if_pos c2] at h2
  have s2 : j * 2 + 1 < X.size := by have := (List.getElem?_eq_some_iff.1 h2).1; simpa using this
  refine ⟨by omega, ?_⟩
  apply Array.ext_getElem?
  intro t
  rw [Array.getElem?_toList] at h1 h2
  rw [Array.getElem?_extract]
  match t with
  | 0 => rw [if_pos (by omega)]; simpa using h1
  | 1 => rw [if_pos (by omega)]; simpa using h2
  | t + 2 => rw [if_neg (by omega)]; simp
theorem rs_Due : rowSize Try.prog 43 = some 2 := by kernel_rfl
attribute [local go_sem] rs_Due
theorem cmpD_neg (p q : Int × Int) : cmpD p q < 0 ↔ ltD p q := by
  unfold cmpD cmpI ltD
  constructor
  · intro h
    split at h <;> repeat (first | (split at h) | omega)
  · intro h
    split <;> repeat (first | split | omega)
theorem cmpD_zero (p q : Int × Int) : cmpD p q = 0 ↔ p = q := by
  constructor
  · intro h
    unfold cmpD cmpI at h
    have e2 : p.2 = q.2 := by
      split at h <;> repeat (first | (split at h) | omega)
    have e1 : p.1 = q.1 := by
      split at h <;> repeat (first | (split at h) | omega)
    exact Prod.ext e1 e2
  · rintro rfl
    unfold cmpD cmpI
    simp
/-- a row of things that are due can be read. -/
def RowD (w : World) (A : Option Addr) (l : List (Int × Int)) : Prop :=
  ∀ j p, l[j]? = some p → ∃ b X t, A = some ⟨b, 0, none⟩ ∧ b < w.heap.size ∧ w.heap[b]? = some (.cells X t (0, 0)) ∧ j * 2 + 2 ≤ X.size ∧ X.extract (j * 2) (j * 2 + 2) = #[.int .i64 p.1, .int .i64 p.2]
theorem RowD.below {w w' : World} {A : Option Addr} {l : List (Int × Int)} (h : RowD w A l) (hb : Below w.heap.size w w') : RowD w' A l := fun j p hj => by
  obtain ⟨b, X, t, e, h1, h2, h3⟩ := h j p hj
  exact ⟨b, X, t, e, by have := hb.size; omega, (hb.block b h1).trans h2, h3⟩
theorem RowD.of_own {w : World} {base n : Nat} {v : Value} {l : List (Int × Int)} (h : w.ownsRow base 43 2 v n (rowD l)) : ∃ A c, v = .slice A n c ∧ n ≤ c ∧ c ≤ 9223372036854775807 ∧ l.length = n ∧ RowD w A l := by
  have hl : l.length = n := by have := h.1; rw [rowD_len] at this; omega
  rcases h.2 with ⟨rfl, rfl⟩ | ⟨g, cap, cur, rfl, hb, hg, hnc, hm, hsz, ht⟩
  · exact ⟨none, 0, rfl, by omega, by omega, hl, fun j p hj => by
      have := (List.getElem?_eq_some_iff.1 hj).1; omega⟩
  · refine ⟨_, cap, rfl, hnc, by unfold maxLen at hm; omega, hl, fun j p hj => ?_⟩
    obtain ⟨h1, h2⟩ := rowD_span ht hj
    exact ⟨g, cur, _, rfl, (Array.getElem?_eq_some_iff.1 hg).1, hg, h1, h2⟩
set_option maxHeartbeats 4000000 in
/-- where x belongs among things that are due. -/
theorem bsD_any (w : World) (A : Option Addr) (n c : Nat) (xs : List (Int × Int)) (x1 x2 : Int) (hn : xs.length = n) (hc : RowD w A xs) (hs : xs.Pairwise ltD) (hb : n ≤ 1000000) :
    Calls Try.prog 63 #[.slice A n c, .agg #[.int .i64 x1, .int .i64 x2], .func (.func 64) #[] #[]] w fun e w' => ∃ i : Nat, PosL ltD xs (x1, x2) i ∧ e = .returned (.tuple #[.int .i64 (i : Int), .bool (decide (xs[i]? = some (x1, x2)))]) ∧ Below w.heap.size w w' := by
  have KO : Hid (∀ (w : World) (i1 a1 i2 a2 r : Int), r = cmpD (i1, a1) (i2, a2) → Calls Try.prog 64 #[.agg #[.int .i64 i1, .int .i64 a1], .agg #[.int .i64 i2, .int .i64 a2]] w fun e w' => e = .returned (.int .i64 r) ∧ Below w.heap.size w w') := hide fun w i1 a1 i2 a2 r hr => by rw [hr]; exact orderD_any w (i1, a1) (i2, a2)
  have HS : Hid (∀ s t y z, s ≤ t → xs[s]? = some y → xs[t]? = some z → y = z ∨ ltD y z) := hide fun s t y z hst hy hz => by
    rcases Nat.eq_or_lt_of_le hst with e | e
    · subst e; rw [hy] at hz; injection hz with hz; exact .inl hz
    · obtain ⟨h1, h2⟩ := List.getElem?_eq_some_iff.1 hy
      obtain ⟨h3, h4⟩ := List.getElem?_eq_some_iff.1 hz
      have := List.pairwise_iff_getElem.1 hs s t h1 h3 e
      rw [h2, h4] at this
      exact .inr this
  have HL := hide hn
  obtain ⟨w1, hw1, r1, z1, b1⟩ := alloc_nm w (.cells #[.int .i64 x1, .int .i64 x2] 43)
  have HC : Hid (RowD w1 A xs) := hide (hc.below b1)
  have HB := hide b1
  have HR := hide r1
  have HZ := hide z1
  clear hc hs hn r1 b1 z1
  go_enter Try.func63, Try.ntmps63
  go_wp2
  go_loopg [9, 10] n (fun g s7 s8 wr => ∃ lo hi : Nat, s7 = .int .i64 lo ∧ s8 = .int .i64 hi ∧ lo ≤ hi ∧ hi ≤ n ∧ hi - lo ≤ g ∧ Hid (Below w1.heap.size w1 wr) ∧ Hid (∀ t y, t < lo → xs[t]? = some y → ltD y (x1, x2)) ∧ Hid (∀ t y, hi ≤ t → xs[t]? = some y → ¬ ltD y (x1, x2)))
  case atStart => exact ⟨0, n, rfl, rfl, Nat.zero_le _, Nat.le_refl _, by omega, hide (Below.refl _ _), hide fun t y ht => absurd ht (Nat.not_lt_zero _), hide fun t y h1 h2 => by have := (List.getElem?_eq_some_iff.1 h2).1; have := HL.out; omega⟩
  case round =>
    obtain ⟨lo, hi, rfl, rfl, hlh, hin, hg, hbel, h1, h2⟩ := hrel
    have HRr : wr.heap[w.heap.size]? = some (.cells #[.int .i64 x1, .int .i64 x2] 43 (0, 0)) := (hbel.out.block _ (by have := HZ.out; omega)).trans HR.out
    by_cases hlt : lo < hi
    · obtain ⟨y, hy⟩ : ∃ y, xs[(lo + hi) / 2]? = some y := ⟨_, List.getElem?_eq_getElem (by have := HL.out; omega)⟩
      obtain ⟨y1, y2⟩ := y
      obtain ⟨b, X, t, rfl, hbl, hX, hX1, hX2⟩ := (HC.out.below hbel.out) _ _ hy
      have Y := hide hy
      have i1 := fun p : BW wr => p.block hX
      have i2 := fun p : BW wr => p.block HRr
      obtain ⟨r, hr⟩ : ∃ r, r = cmpD (y1, y2) (x1, x2) := ⟨_, rfl⟩
      have KC := hide (fun (W : World) => KO.out W y1 y2 x1 x2 r hr)
      have hx0 : (#[Value.int .i64 x1, Value.int .i64 x2] : Array Value).extract 0 2 = #[Value.int .i64 x1, Value.int .i64 x2] := rfl
      dsimp only at i1 i2 hX1 hX2
      clear hy hbl hX HRr
      by_cases hyx : r < 0
      · have HY : Hid (ltD (y1, y2) (x1, x2)) := hide ((cmpD_neg _ _).1 (by rw [← hr]; exact hyx))
        clear hr
        go_upto_region 5 with (fail)
        refine wp_region_below wr (Below.refl _ _) (by kernel_rfl) (by kernel_rfl) ?_
        repeat
          first
          | (go_big_quiet_step (first | (go_at_call 64; with_reducible exact Calls.bel (KC.out _)) | fail))
          | (go_big_quiet_want; apply quiet_span; (intro p; go_simp; rfl); (try simp only [Act.put, List.setIfInBounds_toArray, List.set_cons_zero, List.set_cons_succ]); go_big_quiet_on)
        refine wpQuiet_nil ?_
        intro _ hw'
        obtain ⟨pq, hw2'⟩ := hw'
        subst hw2'
        have HB6 := hide (hbel.out.trans (pq.below.mono hbel.out.size))
        clear i1 i2 hX1 hX2 KC
        go_wp2
        go_roundg (hi - ((lo + hi) / 2 + 1))
        case measure => omega
        case rel =>
          refine ⟨(lo + hi) / 2 + 1, hi, by rw [show ((lo : Int) + (hi : Int)) / 2 + 1 = (((lo + hi) / 2 + 1 : Nat) : Int) by omega], rfl, by omega, hin, Nat.le_refl _, HB6, hide fun t z ht hz => ?_, h2⟩
          rcases HS.out t ((lo + hi) / 2) _ _ (by omega) hz Y.out with e | e
          · rw [e]; exact HY.out
          · exact ordDu.tr _ _ _ e HY.out
      · have HY : Hid (¬ ltD (y1, y2) (x1, x2)) := hide (fun h => hyx (by rw [hr]; exact (cmpD_neg _ _).2 h))
        clear hr
        go_upto_region 5 with (fail)
        refine wp_region_below wr (Below.refl _ _) (by kernel_rfl) (by kernel_rfl) ?_
        repeat
          first
          | (go_big_quiet_step (first | (go_at_call 64; with_reducible exact Calls.bel (KC.out _)) | fail))
          | (go_big_quiet_want; apply quiet_span; (intro p; go_simp; rfl); (try simp only [Act.put, List.setIfInBounds_toArray, List.set_cons_zero, List.set_cons_succ]); go_big_quiet_on)
        refine wpQuiet_nil ?_
        intro _ hw'
        obtain ⟨pq, hw2'⟩ := hw'
        subst hw2'
        have HB6 := hide (hbel.out.trans (pq.below.mono hbel.out.size))
        clear i1 i2 hX1 hX2 KC
        go_wp2
        go_roundg ((lo + hi) / 2 - lo)
        case measure => omega
        case rel =>
          refine ⟨lo, (lo + hi) / 2, rfl, by rw [show ((lo : Int) + (hi : Int)) / 2 = (((lo + hi) / 2 : Nat) : Int) by omega], by omega, by omega, Nat.le_refl _, HB6, h1, hide fun t z ht hz hlt' => ?_⟩
          rcases HS.out ((lo + hi) / 2) t _ _ ht Y.out hz with e | e
          · rw [← e] at hlt'; exact HY.out hlt'
          · exact HY.out (ordDu.tr _ _ _ e hlt')
    · have : hi = lo := by omega
      subst this
      have P := hide (show PosL ltD xs (x1, x2) hi from ⟨by have := HL.out; omega, h1.out, h2.out⟩)
      have HF : Hid (∀ W, Below wr.heap.size wr W → Below w.heap.size w W) := hide fun W hW => (HB.out.trans (hbel.out.mono (by have := HZ.out; omega))).trans (hW.mono (by have := hbel.out.size; have := HZ.out; omega))
      by_cases hn : hi < n
      · obtain ⟨y, hy⟩ : ∃ y, xs[hi]? = some y := ⟨_, List.getElem?_eq_getElem (by have := HL.out; omega)⟩
        obtain ⟨y1, y2⟩ := y
        obtain ⟨b, X, t, rfl, hbl, hX, hX1, hX2⟩ := (HC.out.below hbel.out) _ _ hy
        have i1 := fun p : BW wr => p.block hX
        have i2 := fun p : BW wr => p.block HRr
        obtain ⟨r, hr⟩ : ∃ r, r = cmpD (y1, y2) (x1, x2) := ⟨_, rfl⟩
        have KC := hide (fun (W : World) => KO.out W y1 y2 x1 x2 r hr)
        have hx0 : (#[Value.int .i64 x1, Value.int .i64 x2] : Array Value).extract 0 2 = #[Value.int .i64 x1, Value.int .i64 x2] := rfl
        have Y : Hid (decide (xs[hi]? = some (x1, x2)) = (r == 0)) := hide (by
          rw [hy, hr]
          by_cases e : (y1, y2) = (x1, x2)
          · rw [e, decide_eq_true rfl, (cmpD_zero _ _).2 rfl]; rfl
          · rw [decide_eq_false (by simpa using e)]
            have : cmpD (y1, y2) (x1, x2) ≠ 0 := fun h => e ((cmpD_zero _ _).1 h)
            simpa using this)
        dsimp only at i1 i2 hX1 hX2
        have gd : decide ((hi : Int) < (n : Int)) = true := decide_eq_true (by omega)
        clear hy hbl hX HRr hr
        go_upto_region 8 with (fail)
        refine wp_region_below wr (Below.refl _ _) (by kernel_rfl) (by kernel_rfl) ?_
        repeat
          first
          | (go_big_quiet_step (first | (go_at_call 64; with_reducible exact Calls.bel (KC.out _)) | fail))
          | (go_big_quiet_want; apply quiet_span; (intro p; go_simp; rfl); (try simp only [Act.put, List.setIfInBounds_toArray, List.set_cons_zero, List.set_cons_succ]); go_big_quiet_on)
        refine wpQuiet_nil ?_
        intro _ hw'
        obtain ⟨pq, hw2'⟩ := hw'
        subst hw2'
        have HB6 := hide (HF.out _ pq.below)
        clear i1 i2 hX1 hX2 KC
        go_wp2
        go_ret2
        refine ⟨hi, P.out, ?_, HB6.out⟩
        rw [Y.out]; rfl
      · have Y : Hid (decide (xs[hi]? = some (x1, x2)) = false) := hide (decide_eq_false (by rw [List.getElem?_eq_none (by have := HL.out; omega)]; simp))
        have gd : decide ((hi : Int) < (n : Int)) = false := decide_eq_false (by omega)
        clear HRr
        go_upto_region 8 with (fail)
        refine wp_region_below wr (Below.refl _ _) (by kernel_rfl) (by kernel_rfl) ?_
        repeat
          first
          | (go_big_quiet_step (fail))
          | (go_big_quiet_want; apply quiet_span; (intro p; go_simp; rfl); (try simp only [Act.put, List.setIfInBounds_toArray, List.set_cons_zero, List.set_cons_succ]); go_big_quiet_on)
        refine wpQuiet_nil ?_
        intro _ hw'
        obtain ⟨pq, hw2'⟩ := hw'
        subst hw2'
        have HB6 := hide (HF.out _ pq.below)
        go_wp2
        go_ret2
        refine ⟨hi, P.out, ?_, HB6.out⟩
        rw [Y.out]; rfl
/-- the same, its place named. -/
theorem bsD_fix (w : World) (A : Option Addr) (n c : Nat) (xs : List (Int × Int)) (x1 x2 : Int) (hn : xs.length = n) (hc : RowD w A xs) (hs : xs.Pairwise ltD) (hb : n ≤ 1000000) :
    Calls Try.prog 63 #[.slice A n c, .agg #[.int .i64 x1, .int .i64 x2], .func (.func 64) #[] #[]] w fun e w' => e = .returned (.tuple #[.int .i64 (posLw ltD (x1, x2) xs : Int), .bool (decide ((x1, x2) ∈ xs))]) ∧ Below w.heap.size w w' :=
  (bsD_any w A n c xs x1 x2 hn hc hs hb).mono fun e w' ⟨i, hp, he, hw⟩ => by
    obtain rfl := hp.eq
    refine ⟨?_, hw⟩
    rw [he]
    congr 5
    simp only [posL_mem ordDu hs]
end Go.Proofs.Ytjdedlmphghpnaa
