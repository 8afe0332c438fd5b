/-
  The walks of life's functions: votes copied; can votes be.
-/
import Derived.Test.YtmbddengmheeeaaLfd
import Derived.Lib.SliceRun
namespace Go.Proofs.Ytmbddengmheeeaa
open Go.RowKit
set_option maxRecDepth 100000
set_option linter.unusedVariables false
set_option linter.unusedSimpArgs false
attribute [local go_sem ↓] exec_span exec_put exec_build heap_alloc_new heap_old
attribute [local go_sem] spanQ_ptr spanC_some heap_of_drew heap_of_drewN rs_vote putAt_ptr putOk_ptr oldOk_some built_vote0

set_option maxHeartbeats 2000000 in
theorem cloneV_any (w : World) (B : Nat) (A : Option Addr) (c : Nat) (l : List (Int × Bool)) (hb : VoS w B A l) (hB : B ≤ w.heap.size) (hl : l.length ≤ 16) (hn : A = none → c = 0) :
    Calls Try.prog 63 #[.slice A l.length c] w (VotesP w l) := by
  obtain ⟨i0, hi, hz0, hz1, hz2⟩ := info_parts info_vote
  rcases A with _ | ad
  · have h0 : l = [] := by
      rcases l with _ | ⟨x, l⟩
      · rfl
      · obtain ⟨b, off, e, _⟩ := hb (by simp)
        cases e
    subst h0
    obtain rfl := hn rfl
    have HF : Hid (VotesP w [] (.returned (.slice none 0 0)) w) := hide ⟨_, rfl, World.ownsRow_nil _ _ _ _, Below.refl _ _⟩
    have hcmp : ∀ W : World, (binOp .eql 32 (.slice none 0 0) (.slice none 0 0)).run Try.prog W = .ok (.bool true) W := fun W => Go.Lib.run_eql_slice_nil W _ _ none 0 0 0 0 Try.underlying32
    clear hb hn
    go_enter Try.func63, Try.ntmps63
    go_wp2
    go_ret
    exact HF.out
  · have hnews : Hid (0 < l.length → ∃ b off, (some ad : Option Addr) = some ⟨b, off, none⟩ ∧ b < B ∧ ∀ j u, (voC l)[j]? = some u → w.cell? ⟨b, off + j, none⟩ = some u) := hide fun hp => by
      obtain ⟨b, off, e, hbB, hc⟩ := hb hp
      refine ⟨b, off, e, hbB, fun j u hj => ?_⟩
      have hjl : j < l.length * 2 := by rw [← voC_len]; exact (List.getElem?_eq_some_iff.1 hj).1
      obtain ⟨h1, h2⟩ := hc (j / 2) (by omega)
      obtain ⟨g1, g2⟩ := voC_get l (j / 2) (by omega)
      rcases (show j % 2 = 0 ∨ j % 2 = 1 by omega) with h | h
      · rw [show j / 2 * 2 = j by omega] at h1 g1
        rw [h1, ← hj, g1]
      · rw [show off + j / 2 * 2 + 1 = off + j by omega] at h2
        rw [show j / 2 * 2 + 1 = j by omega] at g2
        rw [h2, ← hj, g2]
    have hvl := voC_len l
    have hvo := voC_one l
    have HF : Hid (∀ v w', OwnVo w' w.heap.size v l → Below w.heap.size w w' → VotesP w l (.returned v) w') := hide fun v w' h hb => ⟨v, rfl, h, hb⟩
    obtain ⟨n, hn'⟩ : ∃ n, n = l.length := ⟨_, rfl⟩
    rw [← hn'] at hl hvl hnews ⊢
    have hown0 : Hid ((w.alloc (.cells #[] 46)).ownsRow w.heap.size 46 2 (.slice (some ⟨w.heap.size, 0, none⟩) 0 0) 0 []) := hide (by
      have := World.ownsRow_lit (e := 46) (size := 2) (base := w.heap.size) w #[] 0 (Nat.le_refl _) (by unfold maxLen; omega) (by simp)
      simpa using this)
    have hnews2 : Hid (0 < n → ∃ b off, (some ad : Option Addr) = some ⟨b, off, none⟩ ∧ ∀ j u, (voC l)[j]? = some u → (w.alloc (.cells #[] 46)).cell? ⟨b, off + j, none⟩ = some u) := hide fun hp => by
      obtain ⟨b, off, e, hbB, hc⟩ := hnews.out hp
      refine ⟨b, off, e, fun j u hj => ?_⟩
      rw [World.cell?_alloc_lt _ _ _ (show b < w.heap.size by omega)]
      exact hc j u hj
    have hZ : Hid (w.heap.size ≤ (w.alloc (.cells #[] 46)).heap.size) := hide (by simp)
    have HNL := hide hn'
    have hcmp : ∀ W : World, (binOp .eql 32 (.slice (some ad) n c) (.slice none 0 0)).run Try.prog W = .ok (.bool false) W := fun W => Go.Lib.run_eql_slice_nil W _ _ (some ad) n c 0 0 Try.underlying32
    clear hb hnews hn hn'
    go_enter Try.func63, Try.ntmps63
    go_wp2_with (first
      | (at_builtin; refine wpList_app_two rfl (.tmp 5) (.tmp 6) w.heap.size 32 46 i0 _ 16 rfl Try.underlying32 hi hz0 hz1 hz2 rfl _ 0 [] (some ad) n c (voC l) rfl rfl hown0.out hvl hnews2.out (fun e => by cases e) hvo (by unfold maxLen; omega) (by omega) hZ.out ?_)
      | fail)
    intro v5 w5 hown5 hgrow5 hat5
    have HO5 : Hid (OwnVo w5 w.heap.size v5 l) := hide (by unfold OwnVo; rw [← HNL.out]; simpa using hown5)
    have HB5 : Hid (Below w.heap.size w w5) := hide (((Below.refl _ _).alloc (Nat.le_refl _) _).grown hgrow5 hZ.out (fun g hg => (World.ownsRow.lt hown0.out g hg).1))
    clear hown5 hgrow5 hat5 hown0 hnews2
    go_wp2
    go_ret
    exact HF.out _ _ HO5.out HB5.out

/-- one vote can be; votes can be. -/
def okVo (v : Int × Bool) : Bool := decide (0 ≤ v.1 ∧ v.1 ≤ 1099511627776) && !(v.2 && !castB v)
def votesOk (l : List (Int × Bool)) : Bool := decide (l.length ≤ 16) && (decide (l.length = 0) || castB (l.getD (l.length - 1) (0, false))) && l.all okVo
theorem votesOk_eq (l : List (Int × Bool)) : votesOk l = (decide (l.length ≤ 16) && (decide (l.length = 0) || castB (l.getD (l.length - 1) (0, false))) && l.all okVo) := rfl
theorem all_take {l : List (Int × Bool)} {k : Nat} (h : k < l.length) (h1 : (l.take k).all okVo = true) : (l.take (k + 1)).all okVo = okVo l[k] := by
  rw [List.take_succ_eq_append_getElem h, List.all_append, h1]; simp
theorem all_not {l : List (Int × Bool)} {k : Nat} (h : k < l.length) (h1 : okVo l[k] = false) : l.all okVo = false := by
  cases hc : l.all okVo with
  | false => rfl
  | true =>
    have := List.all_eq_true.1 hc l[k] (List.getElem_mem h)
    rw [h1] at this; cases this
set_option maxHeartbeats 4000000 in
theorem rightVotes_any (w : World) (B : Nat) (A : Option Addr) (c : Nat) (l : List (Int × Bool)) (hb : VoS w B A l) (hB : B ≤ w.heap.size) (hl : l.length ≤ 4611686018427387904) :
    Calls Try.prog 44 #[.slice A l.length c] w (BoolP w (votesOk l)) := by
  have hF : Hid (∀ w' r, Below w.heap.size w w' → r = votesOk l → BoolP w (votesOk l) (.returned (.bool r)) w') := hide fun w' r hb hr => ⟨by rw [hr], hb⟩
  have he := votesOk_eq l
  generalize votesOk l = R at hF he ⊢
  obtain ⟨n, hn⟩ : ∃ n, n = l.length := ⟨_, rfl⟩
  have HN := hide hn
  rw [← hn] at hl he ⊢
  have HB := hide hb
  by_cases h16 : n ≤ 16
  · by_cases hz : n = 0
    · have hR : Hid (R = true) := hide (by
        rw [he, decide_eq_true h16, decide_eq_true hz, List.eq_nil_of_length_eq_zero (l := l) (by omega)]; rfl)
      subst hz
      clear he hn
      go_enter Try.func44, Try.ntmps44
      go_wp2
      go_loopw [25] (fun v wr => v = .int .i64 ((0 : Nat) : Int) ∧ wr = w) (fun _ _ => 0)
      case atStart => exact ⟨rfl, rfl⟩
      case round =>
        obtain ⟨rfl, rfl⟩ := hrel
        go_wp2
        go_ret
        exact hF.out _ _ (Below.refl _ _) hR.out.symm
    · obtain ⟨m, rfl⟩ : ∃ m, n = m + 1 := ⟨n - 1, by omega⟩
      have hml : m < l.length := by omega
      obtain ⟨b, off, rfl, hbB, hc⟩ := hb (by omega)
      obtain ⟨h1, h2⟩ := hc m hml
      have hlast : l.getD (m + 1 - 1) (0, false) = l[m] := by rw [Nat.add_sub_cancel, List.getD_eq_getElem?_getD, List.getElem?_eq_getElem hml]; rfl
      rw [hlast, decide_eq_true h16, decide_eq_false hz, Bool.true_and, Bool.false_or] at he
      obtain ⟨x, hx⟩ : ∃ x, x = l[m] := ⟨_, rfl⟩
      rw [← hx] at h1 h2 he
      have KC := hide (fun W => cast_any W x)
      obtain ⟨r, hr⟩ : ∃ r, r = castB x := ⟨_, rfl⟩
      rw [← hr] at KC he
      obtain ⟨xs, xo⟩ := x
      unfold voV at KC
      have HE := hide he
      have hbw : b < w.heap.size := by omega
      have HBW := hide hbw
      clear hlast hx hr hc hb hbw hz he hn
      cases r
      · have hR : Hid (R = false) := hide (by rw [HE.out]; rfl)
        go_enter Try.func44, Try.ntmps44
        go_wp2_with (first | ((with_reducible refine (KC.out _).mono ?_); rintro e w1 ⟨rfl, b1⟩; have B1 := hide b1; clear b1) | fail)
        go_ret
        exact hF.out _ _ B1.out hR.out.symm
      · have HA : Hid (R = l.all okVo) := hide (by rw [HE.out]; rfl)
        go_enter Try.func44, Try.ntmps44
        go_wp2_with (first | ((with_reducible refine (KC.out _).mono ?_); rintro e w1 ⟨rfl, b1⟩; have B1 := hide b1; clear b1) | fail)
        clear h1 h2
        go_loopw [25] (fun v wr => ∃ k : Nat, k ≤ m + 1 ∧ v = .int .i64 (k : Int) ∧ Hid ((l.take k).all okVo = true) ∧ Hid (Below w.heap.size w wr)) (fun v _ => m + 1 - (intOf v).toNat)
        case atStart => exact ⟨0, by omega, rfl, hide rfl, B1⟩
        case round =>
          obtain ⟨k, hk, rfl, hok, hbel⟩ := hrel
          by_cases hlt : k < m + 1
          · have hkl : k < l.length := by rw [← HN.out]; exact hlt
            obtain ⟨b', off', he', _, hc⟩ := HB.out (by omega)
            simp only [Option.some.injEq, Addr.mk.injEq, and_true] at he'
            obtain ⟨rfl, rfl⟩ := he'
            obtain ⟨g1, g2⟩ := hc k hkl
            have ht := all_take hkl hok.out
            have hnot := fun h => all_not (l := l) (k := k) hkl h
            obtain ⟨y, hy⟩ : ∃ y, y = l[k] := ⟨_, rfl⟩
            rw [← hy] at g1 g2 ht hnot
            have KY := hide (fun W => cast_any W y)
            obtain ⟨ys, yo⟩ := y
            have hcb : castB (ys, yo) = (ys != 0) := rfl
            have hok2 : okVo (ys, yo) = (decide (0 ≤ ys ∧ ys ≤ 1099511627776) && !(yo && !castB (ys, yo))) := rfl
            unfold voV at KY
            obtain ⟨q, hq⟩ : ∃ q, q = castB (ys, yo) := ⟨_, rfl⟩
            rw [← hq] at KY hok2
            have i1 : wr.cell? ⟨b, off + k * 2, none⟩ = some (.int .i64 ys) := (hbel.out.cell (show (⟨b, off + k * 2, none⟩ : Addr).block < w.heap.size from HBW.out)).trans g1
            have i2 : wr.cell? ⟨b, off + k * 2 + 1, none⟩ = some (.bool yo) := (hbel.out.cell (show (⟨b, off + k * 2 + 1, none⟩ : Addr).block < w.heap.size from HBW.out)).trans g2
            have hbs := hide hbel.out.size
            have hBA := hide (hbel.out.alloc hbs.out (.cells #[.int .i64 ys, .bool yo] 46))
            have hBAs := hide hBA.out.size
            have hxv : (#[Value.int IntKind.i64 ys, Value.bool yo] : Array Value).extract 0 2 = #[Value.int IntKind.i64 ys, Value.bool yo] := rfl
            have HNOT := hide hnot
            have HT := hide ht
            have HOK := hide hok2
            have hji : (k : Int) < (m : Int) + 1 := by omega
            clear hc hy hcb hq g1 g2 hnot ht hok2 hkl
            by_cases c1 : ys < 0
            · have hR : Hid (R = false) := hide (by rw [HA.out, HNOT.out (by rw [HOK.out, decide_eq_false (by omega)]; rfl)])
              go_wp2
              go_ret
              exact hF.out _ _ hBA.out hR.out.symm
            · by_cases c2 : ys > 1099511627776
              · have hR : Hid (R = false) := hide (by rw [HA.out, HNOT.out (by rw [HOK.out, decide_eq_false (by omega)]; rfl)])
                go_wp2
                go_ret
                exact hF.out _ _ hBA.out hR.out.symm
              · cases yo
                · have hT2 : Hid ((l.take (k + 1)).all okVo = true) := hide (by rw [HT.out, HOK.out, decide_eq_true (by omega)]; rfl)
                  go_wp2
                  go_roundw
                  case rel => exact ⟨k + 1, by omega, by go_num, hT2, hBA⟩
                  case measure => simp [intOf]; omega
                · cases q
                  · have hR : Hid (R = false) := hide (by rw [HA.out, HNOT.out (by rw [HOK.out]; simp)])
                    go_wp2_with (first | ((with_reducible refine (KY.out _).mono ?_); rintro e w2 ⟨rfl, b2⟩; have B2 := hide (hBA.out.trans (b2.mono hBAs.out)); clear b2) | fail)
                    go_ret
                    exact hF.out _ _ B2.out hR.out.symm
                  · have hT2 : Hid ((l.take (k + 1)).all okVo = true) := hide (by rw [HT.out, HOK.out, decide_eq_true (by omega)]; rfl)
                    go_wp2_with (first | ((with_reducible refine (KY.out _).mono ?_); rintro e w2 ⟨rfl, b2⟩; have B2 := hide (hBA.out.trans (b2.mono hBAs.out)); clear b2) | fail)
                    go_roundw
                    case rel => exact ⟨k + 1, by omega, by go_num, hT2, B2⟩
                    case measure => simp [intOf]; omega
          · obtain rfl : k = m + 1 := by omega
            have hR : Hid (R = true) := hide (by
              rw [HA.out]
              have := hok.out
              rwa [List.take_of_length_le (by rw [HN.out]; exact Nat.le_refl _)] at this)
            clear hlt
            go_wp2
            go_ret
            exact hF.out _ _ hbel.out hR.out.symm
  · have hR : Hid (R = false) := hide (by rw [he, decide_eq_false h16]; rfl)
    have hgt : (n : Int) > 16 := by omega
    clear he hn hb
    go_enter Try.func44, Try.ntmps44
    go_wp2
    go_ret
    exact hF.out _ _ (Below.refl _ _) hR.out.symm
end Go.Proofs.Ytmbddengmheeeaa
