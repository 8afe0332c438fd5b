/-
  Whether news are alike, as the document says it: Same.
-/
import Derived.Test.YtajpibopknpmmaaYe
import Derived.Test.YtajpibopknpmmaaLent
namespace Go.Proofs.Ytajpibopknpmmaa
open Go.RowKit
set_option maxRecDepth 100000
set_option linter.unusedVariables false
set_option linter.unusedSimpArgs false

set_option maxHeartbeats 4000000 in
/-- the same news are alike. -/
theorem sameR_any (w : World) (A1 A2 : Option Addr) (c1 c2 : Nat) (l : List (Int × List UInt8)) (b1 b2 : Nat) (h1 : NwsS w b1 A1 l) (h2 : NwsS w b2 A2 l) (hl : l.length ≤ 4096) :
    Calls Try.prog 17 #[.slice A1 l.length c1, .slice A2 l.length c2] w fun e w' => e = .returned (.bool true) ∧ Below w.heap.size w w' := by
  obtain ⟨n, hn⟩ : ∃ n, n = l.length := ⟨_, rfl⟩
  rw [← hn] at hl ⊢
  have H1 := hide h1
  have H2 := hide h2
  have HN := hide hn
  clear h1 h2 hn
  go_enter Try.func17, Try.ntmps17
  go_wp2
  go_loopw [5] (fun i wr => ∃ (j : Nat), j ≤ n ∧ i = .int .i64 (j : Int) ∧ Hid (Below w.heap.size w wr)) (fun i _ => n - (Go.RowKit.intOf i).toNat)
  case atStart => exact ⟨0, by omega, rfl, hide (Below.refl _ _)⟩
  case round =>
    obtain ⟨j, hj, rfl, hB⟩ := hrel
    obtain ⟨wo, hwo⟩ : ∃ wo, wo = wr := ⟨_, rfl⟩
    subst hwo
    by_cases hlt : j < n
    · have hji : (j : Int) < (n : Int) := by omega
      have hj0 : (0 : Int) ≤ (j : Int) := by omega
      have hjl : j < l.length := by rw [← HN.out]; exact hlt
      obtain ⟨g1, rfl, -, -, hc1⟩ := (H1.out.below hB.out) (by omega)
      obtain ⟨g2, rfl, -, -, hc2⟩ := (H2.out.below hB.out) (by omega)
      obtain ⟨k1, D1, e1, d1, -, y1, -⟩ := hc1 j hjl
      obtain ⟨k2, D2, e2, d2, -, y2, -⟩ := hc2 j hjl
      have v1 : ∀ p : BW wo, (convert 30 9 (.slice D1 l[j].2.length e1)).run Try.prog p.w = .ok (.string ⟨l[j].2.toArray⟩) p.w := fun p => conv_any D1 e1 l[j].2 _ p.w (y1.below p.below)
      have v2 : ∀ p : BW wo, (convert 30 9 (.slice D2 l[j].2.length e2)).run Try.prog p.w = .ok (.string ⟨l[j].2.toArray⟩) p.w := fun p => conv_any D2 e2 l[j].2 _ p.w (y2.below p.below)
      obtain ⟨kk, hkk⟩ : ∃ x, x = l[j].1 := ⟨_, rfl⟩
      obtain ⟨dd, hdd⟩ : ∃ x, x = l[j].2 := ⟨_, rfl⟩
      rw [← hkk] at k1 k2
      rw [← hdd] at d1 d2 v1 v2
      obtain ⟨m, hm⟩ : ∃ m, m = dd.length := ⟨_, rfl⟩
      rw [← hm] at d1 d2 v1 v2
      obtain ⟨st, hst⟩ : ∃ x, Value.string x = .string ⟨dd.toArray⟩ := ⟨_, rfl⟩
      rw [← hst] at v1 v2
      have R1 : ∀ p : BW wo, p.w.cell? ⟨g1, j * 2, none⟩ = some (.int .i64 kk) := fun p => p.cell k1
      have R2 : ∀ p : BW wo, p.w.cell? ⟨g2, j * 2, none⟩ = some (.int .i64 kk) := fun p => p.cell k2
      have R3 : ∀ p : BW wo, p.w.cell? ⟨g1, j * 2 + 1, none⟩ = some (.slice D1 m e1) := fun p => p.cell d1
      have R4 : ∀ p : BW wo, p.w.cell? ⟨g2, j * 2 + 1, none⟩ = some (.slice D2 m e2) := fun p => p.cell d2
      clear hc1 hc2 y1 y2 hkk hdd hm hst k1 k2 d1 d2 hjl
      go_upto_region 6 with (fail)
      refine wp_region_below wo (Below.refl _ _) (by kernel_rfl) (by kernel_rfl) ?_
      repeat (go_big_quiet_step (fail))
      refine wpQuiet_nil ?_
      intro _ hw'
      obtain ⟨pq, hw2'⟩ := hw'
      subst hw2'
      have B6 := hide (hB.out.trans (pq.below.mono hB.out.size))
      clear R1 R2 R3 R4 v1 v2
      go_wp2
      go_roundw
      case rel => exact ⟨j + 1, by omega, by go_num, B6⟩
      case measure => simp [Go.RowKit.intOf]; omega
    · obtain rfl : j = n := by omega
      go_wp2
      go_ret
      exact ⟨rfl, hB.out⟩
end Go.Proofs.Ytajpibopknpmmaa
