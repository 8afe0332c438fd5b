/-
  A place looked up in a row that rises, as the library does it.
-/
import Derived.Test.YtjdedlmphghpnaaWhe
import Derived.Test.YtjdedlmphghpnaaWhm
import Derived.Deep.LoopGhost
import Derived.Lib.Walk
namespace Go.Proofs.Ytjdedlmphghpnaa
open Go.RowKit Go.Sort
set_option maxRecDepth 100000
set_option linter.unusedVariables false
set_option linter.unusedSimpArgs false

theorem nanC_any (w : World) (x : Int) : Calls Try.prog 41 #[.int .i64 x] w fun e w' => e = .returned (.bool false) ∧ w' = w := by
  go_enter Try.func41, Try.ntmps41
  go_wp2
  go_ret
  exact ⟨by simp, rfl⟩
theorem nanS_any (w : World) (x : Int) : Calls Try.prog 38 #[.int .i64 x] w fun e w' => e = .returned (.bool false) ∧ w' = w := by
  go_enter Try.func38, Try.ntmps38
  go_wp2
  go_ret
  exact ⟨by simp, rfl⟩
theorem lessC_any (w : World) (x y : Int) : Calls Try.prog 37 #[.int .i64 x, .int .i64 y] w fun e w' => e = .returned (.bool (decide (x < y))) ∧ w' = w := by
  have KN := hide (nanC_any)
  go_enter Try.func37, Try.ntmps37
  go_wp2_with (go_at_call 41; refine (KN.out _ _).mono ?_; rintro e w' ⟨rfl, rfl⟩)
  go_ret
  exact ⟨rfl, rfl⟩
set_option maxHeartbeats 4000000 in
/-- where x belongs among numbers that rise. -/
theorem bsI_any (w : World) (A : Option Addr) (n c : Nat) (xs : List Int) (x : Int) (hn : xs.length = n) (hc : ∀ j y, xs[j]? = some y → ∃ b, A = some ⟨b, 0, none⟩ ∧ w.cell? ⟨b, j, none⟩ = some (.int .i64 y)) (hs : xs.Pairwise ltZ) (hb : n ≤ 1000000) :
    Calls Try.prog 35 #[.slice A n c, .int .i64 x] w fun e w' => ∃ i : Nat, PosL ltZ xs x i ∧ e = .returned (.tuple #[.int .i64 (i : Int), .bool (decide (xs[i]? = some x))]) ∧ w' = w := by
  have KL := hide (lessC_any)
  have KN := hide (nanS_any)
  have HC := hide hc
  have HS : Hid (∀ s t y z, s ≤ t → xs[s]? = some y → xs[t]? = some z → y ≤ z) := hide fun s t y z hst hy hz => by
    rcases Nat.eq_or_lt_of_le hst with e | e
    · subst e; rw [hy] at hz; injection hz with hz; omega
    · obtain ⟨h1, h2⟩ := List.getElem?_eq_some_iff.1 hy
      obtain ⟨h3, h4⟩ := List.getElem?_eq_some_iff.1 hz
      have := List.pairwise_iff_getElem.1 hs s t h1 h3 e
      rw [h2, h4] at this
      unfold ltZ at this; omega
  have HL := hide hn
  clear hc hs hn
  go_enter Try.func35, Try.ntmps35
  go_wp2
  go_loopg [7, 8] n (fun g s7 s8 wr => ∃ lo hi : Nat, s7 = .int .i64 lo ∧ s8 = .int .i64 hi ∧ lo ≤ hi ∧ hi ≤ n ∧ hi - lo ≤ g ∧ wr = w ∧ Hid (∀ t y, t < lo → xs[t]? = some y → ltZ y x) ∧ Hid (∀ t y, hi ≤ t → xs[t]? = some y → ¬ ltZ y x))
  case atStart => exact ⟨0, n, rfl, rfl, Nat.zero_le _, Nat.le_refl _, by omega, rfl, hide fun t y ht => absurd ht (Nat.not_lt_zero _), hide fun t y h1 h2 => by have := (List.getElem?_eq_some_iff.1 h2).1; have := HL.out; omega⟩
  case round =>
    obtain ⟨lo, hi, rfl, rfl, hlh, hin, hg, rfl, h1, h2⟩ := hrel
    by_cases hlt : lo < hi
    · obtain ⟨y, hy⟩ : ∃ y, xs[(lo + hi) / 2]? = some y := ⟨_, List.getElem?_eq_getElem (by have := HL.out; omega)⟩
      obtain ⟨b, rfl, cm⟩ := HC.out _ y hy
      have Y := hide hy
      clear hy
      by_cases hyx : y < x
      · go_wp2_with (first | (go_at_call 37; refine (KL.out _ _ _).mono ?_; rintro e w' ⟨rfl, rfl⟩) | fail)
        go_roundg (hi - ((lo + hi) / 2 + 1))
        case measure => omega
        case rel =>
          refine ⟨(lo + hi) / 2 + 1, hi, by rw [show ((lo : Int) + (hi : Int)) / 2 + 1 = (((lo + hi) / 2 + 1 : Nat) : Int) by omega], rfl, by omega, hin, Nat.le_refl _, rfl, hide fun t z ht hz => ?_, h2⟩
          have := HS.out t ((lo + hi) / 2) _ _ (by omega) hz Y.out
          unfold ltZ; omega
      · go_wp2_with (first | (go_at_call 37; refine (KL.out _ _ _).mono ?_; rintro e w' ⟨rfl, rfl⟩) | fail)
        go_roundg ((lo + hi) / 2 - lo)
        case measure => omega
        case rel =>
          refine ⟨lo, (lo + hi) / 2, rfl, by rw [show ((lo : Int) + (hi : Int)) / 2 = (((lo + hi) / 2 : Nat) : Int) by omega], by omega, by omega, Nat.le_refl _, rfl, h1, hide fun t z ht hz => ?_⟩
          have := HS.out ((lo + hi) / 2) t _ _ ht Y.out hz
          unfold ltZ; omega
    · have : hi = lo := by omega
      subst this
      have P := hide (show PosL ltZ xs x hi from ⟨by have := HL.out; omega, h1.out, h2.out⟩)
      by_cases hn : hi < n
      · obtain ⟨y, hy⟩ : ∃ y, xs[hi]? = some y := ⟨_, List.getElem?_eq_getElem (by have := HL.out; omega)⟩
        obtain ⟨b, rfl, cl⟩ := HC.out _ y hy
        by_cases hyx : y = x
        · subst hyx
          have Y := hide (decide_eq_true hy)
          clear hy
          go_wp2_with (first | (go_at_call 38; refine (KN.out _ _).mono ?_; rintro e w' ⟨rfl, rfl⟩) | fail)
          go_ret2
          refine ⟨hi, P.out, ?_, rfl⟩; rw [Y.out]; first | rfl | simp [hyx]
        · have Y : Hid (decide (xs[hi]? = some x) = false) := hide (decide_eq_false (by rw [hy]; simpa using hyx))
          clear hy
          go_wp2_with (first | (go_at_call 38; refine (KN.out _ _).mono ?_; rintro e w' ⟨rfl, rfl⟩) | fail)
          go_ret2
          refine ⟨hi, P.out, ?_, rfl⟩; rw [Y.out]; first | rfl | simp [hyx]
      · have Y : Hid (decide (xs[hi]? = some x) = false) := hide (decide_eq_false (by rw [List.getElem?_eq_none (by have := HL.out; omega)]; simp))
        go_wp2_with (first | (go_at_call 38; refine (KN.out _ _).mono ?_; rintro e w' ⟨rfl, rfl⟩) | fail)
        go_ret2
        refine ⟨hi, P.out, ?_, rfl⟩; rw [Y.out]; rfl
/-- the same, its place named. -/
theorem bsI_fix (w : World) (A : Option Addr) (n c : Nat) (xs : List Int) (x : Int) (hn : xs.length = n) (hc : ∀ j y, xs[j]? = some y → ∃ b, A = some ⟨b, 0, none⟩ ∧ w.cell? ⟨b, j, none⟩ = some (.int .i64 y)) (hs : xs.Pairwise ltZ) (hb : n ≤ 1000000) :
    Calls Try.prog 35 #[.slice A n c, .int .i64 x] w fun e w' => e = .returned (.tuple #[.int .i64 (posLw ltZ x xs : Int), .bool (decide (x ∈ xs))]) ∧ w = w' :=
  (bsI_any w A n c xs x hn hc hs hb).mono fun e w' ⟨i, hp, he, hw⟩ => by
    obtain rfl := hp.eq
    refine ⟨?_, hw.symm⟩
    rw [he]
    congr 5
    simp only [posL_mem ordZ hs]
end Go.Proofs.Ytjdedlmphghpnaa
