/-
  The walks of owner's small functions: can a list of replicas be; which of two claims goes first.
-/
import Derived.Test.YtlpihjbnfdfbaaaOr
import Derived.Test.YtlpihjbnfdfbaaaOa
import Derived.Test.YtlpihjbnfdfbaaaHw
namespace Go.Proofs.Ytlpihjbnfdfbaaa
open Go.RowKit
set_option linter.unusedVariables false
theorem natI_inV (l : List Nat) : (natI l).map izV = l.map inV := by simp [natI, izV, inV, Function.comp_def]
theorem okI_zero {l : List Int} (h : 0 < l.length) : okI l 0 = decide (0 ≤ l[0] ∧ l[0] < 16) := by
  unfold okI
  rw [List.getD_eq_getElem?_getD, List.getElem?_eq_getElem h]
  simp
theorem okI_succ {l : List Int} {j : Nat} (h : j + 1 < l.length) : okI l (j + 1) = decide (0 ≤ l[j + 1] ∧ l[j + 1] < 16 ∧ l[j] < l[j + 1]) := by
  unfold okI
  rw [List.getD_eq_getElem?_getD, List.getD_eq_getElem?_getD, List.getElem?_eq_getElem h, Nat.add_sub_cancel, List.getElem?_eq_getElem (by omega)]
  simp
def RisPost (w : World) (l : List Int) (e : Ending) (w' : World) : Prop := e = .returned (.bool (risL l)) ∧ w = w'
theorem RisPost.no {w : World} {l : List Int} {i : Nat} (h : i < l.length) (hi : okI l i = false) : RisPost w l (.returned (.bool false)) w := ⟨by rw [risL_no h hi], rfl⟩

set_option maxHeartbeats 1000000 in
theorem oright_any (w : World) (B : Nat) (A : Option Addr) (c : Nat) (l : List Int) (hl : l.length ≤ 17592186044416) (hb : IntS w B A l) :
    Calls Try.prog 39 #[.slice A l.length c] w (RisPost w l) := by
  obtain ⟨n, hn⟩ : ∃ n, n = l.length := ⟨_, rfl⟩
  have HN := hide hn
  have HB := hide hb
  rw [← hn] at hl ⊢
  clear hn hb
  go_enter Try.func39, Try.ntmps39
  go_wp2
  go_loopw [7] (fun v wr => ∃ k : Nat, k ≤ n ∧ v = .int .i64 (k : Int) ∧ wr = w ∧ Hid (∀ j, j < k → okI l j = true)) (fun v _ => n - (intOf v).toNat)
  case atStart => exact ⟨0, by omega, rfl, rfl, hide (fun j hj => by omega)⟩
  case round =>
    obtain ⟨k, hk, rfl, rfl, hok⟩ := hrel
    by_cases hlt : k < n
    · have hkl : k < l.length := by rw [← HN.out]; exact hlt
      obtain ⟨b, off, rfl, _, hc⟩ := HB.out (by omega)
      rcases k with _ | j
      · have h1 := hc 0 hkl
        rw [Nat.add_zero] at h1
        have h2 := okI_zero hkl
        obtain ⟨x, hx⟩ : ∃ x, x = l[0] := ⟨_, rfl⟩
        rw [← hx] at h1 h2
        have H2 := hide h2
        have HK := hide hkl
        clear hx hc h2 hkl
        by_cases c1 : x < 0
        · have HF := hide (RisPost.no (w := wr) HK.out (by rw [H2.out]; exact decide_eq_false (by omega)))
          go_wp2
          go_ret
          exact HF.out
        · by_cases c2 : x ≥ 16
          · have HF := hide (RisPost.no (w := wr) HK.out (by rw [H2.out]; exact decide_eq_false (by omega)))
            go_wp2
            go_ret
            exact HF.out
          · have HF := hide (show okI l 0 = true by rw [H2.out]; exact decide_eq_true (by omega))
            go_wp2
            go_roundw
            case rel => exact ⟨1, by omega, by go_num, trivial, hide (fun j hj => (show j = 0 by omega) ▸ HF.out)⟩
            case measure => simp [intOf]; omega
      · have h1 := hc (j + 1) hkl
        have h0 := hc j (by omega)
        have h2 := okI_succ hkl
        obtain ⟨x, hx⟩ : ∃ x, x = l[j + 1] := ⟨_, rfl⟩
        obtain ⟨y, hy⟩ : ∃ y, y = l[j]'(by omega) := ⟨_, rfl⟩
        rw [← hx] at h1 h2
        rw [← hy] at h0 h2
        have H2 := hide h2
        have HK := hide hkl
        clear hx hy hc h2 hkl
        by_cases c1 : x < 0
        · have HF := hide (RisPost.no (w := wr) HK.out (by rw [H2.out]; exact decide_eq_false (by omega)))
          go_wp2
          go_ret
          exact HF.out
        · by_cases c2 : x ≥ 16
          · have HF := hide (RisPost.no (w := wr) HK.out (by rw [H2.out]; exact decide_eq_false (by omega)))
            go_wp2
            go_ret
            exact HF.out
          · by_cases c3 : x ≤ y
            · have HF := hide (RisPost.no (w := wr) HK.out (by rw [H2.out]; exact decide_eq_false (by omega)))
              go_wp2
              go_ret
              exact HF.out
            · have HF := hide (show okI l (j + 1) = true by rw [H2.out]; exact decide_eq_true (by omega))
              go_wp2
              go_roundw
              case rel => exact ⟨j + 2, by omega, by go_num, trivial, hide (fun i hi => by
                rcases Nat.lt_or_ge i (j + 1) with h | h
                · exact hok.out i h
                · obtain rfl : i = j + 1 := by omega
                  exact HF.out)⟩
              case measure => simp [intOf]; omega
    · obtain rfl : k = n := by omega
      have HF : Hid (RisPost wr l (.returned (.bool true)) wr) := hide ⟨by rw [risL_yes (fun j hj => hok.out j (by rw [HN.out]; exact hj))], rfl⟩
      clear hlt
      go_wp2
      go_ret
      exact HF.out

def RisQ (w : World) (l : List Int) (e : Ending) (w' : World) : Prop := e = .returned (.bool (risL l)) ∧ ∃ n, w' = w.drewN n
theorem RisQ.no {w : World} {l : List Int} {i m n : Nat} {wr : World} (h : i < l.length) (hi : okI l i = false) (hw : Hid (wr = w.drewN m)) : RisQ w l (.returned (.bool false)) (wr.drewN n) := ⟨by rw [risL_no h hi], m + n, by rw [hw, World.drewN_drewN]⟩

set_option maxHeartbeats 2000000 in
theorem reforight_any (w : World) (B : Nat) (A : Option Addr) (c : Nat) (l : List Int) (hl : l.length ≤ 17592186044416) (hb : IntS w B A l) :
    Calls Try.prog 43 #[.slice A l.length c] w (RisQ w l) := by
  obtain ⟨n, hn⟩ : ∃ n, n = l.length := ⟨_, rfl⟩
  have HN := hide hn
  have HB := hide hb
  rw [← hn] at hl ⊢
  clear hn hb
  go_enter Try.func43, Try.ntmps43
  go_wp2
  go_loopw [3] (fun v wr => ∃ k m : Nat, k ≤ n ∧ v = .int .i64 (k : Int) ∧ Hid (wr = w.drewN m) ∧ Hid (∀ j, j < k → okI l j = true)) (fun v _ => n - (intOf v).toNat)
  case atStart => exact ⟨0, 0, by omega, rfl, hide rfl, hide (fun j hj => by omega)⟩
  case round =>
    obtain ⟨k, m, hk, rfl, hwr, hok⟩ := hrel
    by_cases hlt : k < n
    · have hkl : k < l.length := by rw [← HN.out]; exact hlt
      have HB2 : IntS wr B A l := by rw [hwr.out]; exact HB.out
      obtain ⟨b, off, rfl, _, hc⟩ := HB2 (by omega)
      have hji : (k : Int) < (n : Int) := by omega
      rcases k with _ | j
      · have h1 := hc 0 hkl
        rw [Nat.add_zero] at h1
        have h2 := okI_zero hkl
        obtain ⟨x, hx⟩ : ∃ x, x = l[0] := ⟨_, rfl⟩
        rw [← hx] at h1 h2
        have H2 := hide h2
        have HK := hide hkl
        clear hx hc h2 hkl HB2
        by_cases c1 : x < 0
        · have dc1 : decide (x < 0) = true := by simpa using c1
          have HF := hide (fun n => RisQ.no (n := n) HK.out (by rw [H2.out]; exact decide_eq_false (by omega)) hwr)
          go_wp2
          go_quiet (fail)
          go_wp2
          go_ret
          exact HF.out _
        · have dc1 : decide (x < 0) = false := by simpa using c1
          by_cases c2 : x ≥ 16
          · have dc2 : decide (x ≥ 16) = true := by simpa using c2
            have HF := hide (fun n => RisQ.no (n := n) HK.out (by rw [H2.out]; exact decide_eq_false (by omega)) hwr)
            go_wp2
            go_quiet (fail)
            go_wp2
            go_ret
            exact HF.out _
          · have dc2 : decide (x ≥ 16) = false := by simpa using c2
            have HF := hide (show okI l 0 = true by rw [H2.out]; exact decide_eq_true (by omega))
            go_wp2
            go_quiet (fail)
            go_wp2
            go_roundw
            case rel => exact ⟨1, m + nq, by omega, by go_num, hide (by rw [hwr.out, World.drewN_drewN]), hide (fun j hj => (show j = 0 by omega) ▸ HF.out)⟩
            case measure => simp [intOf]; omega
      · have h1 := hc (j + 1) hkl
        have h0 := hc j (by omega)
        have h2 := okI_succ hkl
        obtain ⟨x, hx⟩ : ∃ x, x = l[j + 1] := ⟨_, rfl⟩
        obtain ⟨y, hy⟩ : ∃ y, y = l[j]'(by omega) := ⟨_, rfl⟩
        rw [← hx] at h1 h2
        rw [← hy] at h0 h2
        have H2 := hide h2
        have HK := hide hkl
        obtain ⟨k, hkj⟩ : ∃ k, k = j + 1 := ⟨_, rfl⟩
        rw [← hkj] at h1 H2 HK hok hk hlt hji ⊢
        have hsub : IntKind.i64.wrap ((k : Int) - 1) = (j : Int) := by rw [IntKind.wrap_i64]; omega
        have hpos : decide ((k : Int) > 0) = true := decide_eq_true (by omega)
        have hjl : (j : Int) < (n : Int) := by omega
        have hpos2 : 0 < k := by omega
        have hpos3 : decide (0 < (k : Int)) = true := decide_eq_true (by omega)
        have HKJ := hide hkj
        clear hkj
        clear hx hy hc h2 hkl HB2
        by_cases c1 : x < 0
        · have dc1 : decide (x < 0) = true := by simpa using c1
          have HF := hide (fun n => RisQ.no (n := n) HK.out (by rw [H2.out]; exact decide_eq_false (by omega)) hwr)
          go_wp2
          go_quiet (fail)
          go_wp2
          go_ret
          exact HF.out _
        · have dc1 : decide (x < 0) = false := by simpa using c1
          by_cases c2 : x ≥ 16
          · have dc2 : decide (x ≥ 16) = true := by simpa using c2
            have HF := hide (fun n => RisQ.no (n := n) HK.out (by rw [H2.out]; exact decide_eq_false (by omega)) hwr)
            go_wp2
            go_quiet (fail)
            go_wp2
            go_ret
            exact HF.out _
          · have dc2 : decide (x ≥ 16) = false := by simpa using c2
            by_cases c3 : x ≤ y
            · have dc3 : decide (x ≤ y) = true := by simpa using c3
              have HF := hide (fun n => RisQ.no (n := n) HK.out (by rw [H2.out]; exact decide_eq_false (by omega)) hwr)
              go_wp2
              go_quiet (fail)
              go_wp2
              go_ret
              exact HF.out _
            · have dc3 : decide (x ≤ y) = false := by simpa using c3
              have HF := hide (show okI l k = true by rw [H2.out]; exact decide_eq_true (by omega))
              go_wp2
              go_quiet (fail)
              go_wp2
              go_roundw
              case rel => exact ⟨k + 1, m + nq, by omega, by go_num, hide (by rw [hwr.out, World.drewN_drewN]), hide (fun i hi => by
                rcases Nat.lt_or_ge i k with h | h
                · exact hok.out i h
                · obtain rfl : i = k := by omega
                  exact HF.out)⟩
              case measure => simp [intOf]; omega
    · obtain rfl : k = n := by omega
      have HF : Hid (RisQ w l (.returned (.bool true)) wr) := hide ⟨by rw [risL_yes (fun j hj => hok.out j (by rw [HN.out]; exact hj))], m, hwr.out⟩
      clear hlt
      go_wp2
      go_ret
      exact HF.out
end Go.Proofs.Ytlpihjbnfdfbaaa
