/-
  Mathematics: a segment's bytes have the sum that they are told to have; one bit turned, or of an address, is told.
-/
import Derived.Test.YtcfckhdohcaffaaKk
import Derived.Test.YtcfckhdohcaffaaMkn
import Derived.Test.YtcfckhdohcaffaaKj
namespace Go.Proofs.Ytcfckhdohcaffaa
open Go.RowKit
set_option linter.unusedVariables false
set_option linter.unusedSimpArgs false

theorem b8_pair {N : Nat} (h : N ≤ 65535) : numS [b8 ((N : Int) / 256), b8 (N : Int)] = N := by
  have h1 : (b8 ((N : Int) / 256)).toNat = N / 256 := by
    unfold b8
    rw [UInt8.toNat_ofNat']
    omega
  have h2 : (b8 (N : Int)).toNat = N % 256 := by
    unfold b8
    rw [UInt8.toNat_ofNat']
    omega
  simp [numS, h1, h2]
  omega
theorem set_two (a d : List UInt8) (x y u v : UInt8) : ((a ++ ([x, y] ++ d)).set a.length u).set (a.length + 1) v = a ++ ([u, v] ++ d) := by
  rw [List.set_append_right _ _ (Nat.le_refl _), Nat.sub_self, List.set_append_right _ _ (by omega), Nat.add_sub_cancel_left]
  rfl
theorem split_at {b : List UInt8} {k : Nat} (h : k + 2 ≤ b.length) : ∃ a x y d, b = a ++ ([x, y] ++ d) ∧ a.length = k := by
  have hl : ((b.drop k).take 2).length = 2 := by rw [List.length_take, List.length_drop]; omega
  match hm : (b.drop k).take 2, hl with
  | [x, y], _ =>
    exact ⟨b.take k, x, y, (b.drop k).drop 2, by rw [← hm, List.take_append_drop, List.take_append_drop], by rw [List.length_take]; omega⟩
/-- what stands in the sum's place changes the sum not. -/
theorem sumV_put (h : Ip) (b : List UInt8) (k : Nat) (u v : UInt8) (ls : h.sb.length = 16) (ld : h.db.length = 16) (hk : k % 2 = 0) (hb : k + 2 ≤ b.length) : sumV h ((b.set k u).set (k + 1) v) k = sumV h b k := by
  obtain ⟨a, x, y, d, rfl, rfl⟩ := split_at hb
  rw [set_two, sumV_all _ _ _ ls ld hk (by simp), sumV_all _ _ _ ls ld hk (by simp), allB_split h a [u, v] d rfl, allB_split h a [x, y] d rfl]
theorem told_put (b : List UInt8) (k N : Nat) (hN : N ≤ 65535) (hb : k + 2 ≤ b.length) : nmB ((b.set k (b8 ((N : Int) / 256))).set (k + 1) (b8 (N : Int))) k 2 = N := by
  obtain ⟨a, x, y, d, rfl, rfl⟩ := split_at hb
  rw [set_two, nmB_split a _ d rfl, b8_pair hN]
theorem putE_zero {h : Ip} {s : Sg} (he : putE h s = 0) : (h.p = 6 ∨ h.p = 17) ∧ s.p = h.p ∧ rightS s = true ∧ (s.ns && h.v) = false ∧ hdN s + s.nd ≤ 65535 := by
  unfold putE at he
  by_cases h1 : (h.p = 6 ∨ h.p = 17) ∧ s.p = h.p
  · rw [if_pos h1] at he
    by_cases h2 : rightS s = true ∧ (s.ns && h.v) = false
    · rw [if_pos h2] at he
      by_cases h3 : 65535 < hdN s + s.nd
      · rw [if_pos h3] at he; exact absurd he (by decide)
      · exact ⟨h1.1, h1.2, h2.1, h2.2, by omega⟩
    · rw [if_neg h2] at he; exact absurd he (by decide)
  · rw [if_neg h1] at he; exact absurd he (by decide)
theorem len_seg0 {s : Sg} {O D : List UInt8} (hr : rightS s = true) (hO : O.length = s.no) (hD : D.length = s.nd) : (seg0 s O D).length = hdN s + s.nd := by
  unfold seg0 hdN
  rw [List.length_append, List.length_append, len_hdB, hO, hD]
  obtain ⟨-, -, h6, h17⟩ := rightS_facts hr
  split
  · rfl
  · rename_i hn; have := (h17 hn).2.2.2.2.2; omega
theorem len_segB {h : Ip} {s : Sg} {O D : List UInt8} (hr : rightS s = true) (hO : O.length = s.no) (hD : D.length = s.nd) : (segB h s O D).length = hdN s + s.nd := by
  unfold segB
  split
  · exact len_seg0 hr hO hD
  · rw [List.length_set, List.length_set, len_seg0 hr hO hD]
theorem atS_two {h : Ip} {s : Sg} (he : putE h s = 0) : atS h.p % 2 = 0 ∧ atS h.p + 2 ≤ hdN s := by
  obtain ⟨hp, sp, -, -, -⟩ := putE_zero he
  unfold atS hdN
  rw [sp]
  rcases hp with hp | hp <;> rw [hp] <;> simp <;> omega
/-- a segment with a sum: it has the one that it is told to have. -/
theorem segB_told {h : Ip} {s : Sg} {O D : List UInt8} (he : putE h s = 0) (hn : s.ns = false) (ls : h.sb.length = 16) (ld : h.db.length = 16) (hO : O.length = s.no) (hD : D.length = s.nd) : nmB (segB h s O D) (atS h.p) 2 = sumV h (segB h s O D) (atS h.p) := by
  obtain ⟨hp, sp, hr, -, -⟩ := putE_zero he
  obtain ⟨h1, h2⟩ := atS_two he
  have hl := len_seg0 hr hO hD
  unfold segB
  rw [hn]
  simp only [Bool.false_eq_true, if_false]
  rw [sumV_put h _ _ _ _ ls ld h1 (by omega), told_put _ _ _ (sumV_le _ _ _) (by omega)]
theorem segE_told {h : Ip} {L : List UInt8} (hp : h.p = 6 ∨ h.p = 17) (h0 : segE h L = 0) : (∀ ao co ad cd, (gotS h L ao co ad cd).ns = true) ∨ nmB L (atS h.p) 2 = sumV h L (atS h.p) := by
  rcases hp with hp | hp
  · right
    unfold segE tcpE at h0
    rw [if_pos hp] at h0
    unfold atS
    rw [if_pos hp]
    split at h0
    · exact absurd h0 (by decide)
    · split at h0
      · exact absurd h0 (by decide)
      · split at h0
        · exact absurd h0 (by decide)
        · split at h0
          · exact absurd h0 (by decide)
          · rename_i h; exact Decidable.not_not.1 h
  · unfold segE udpE at h0
    rw [if_neg (by rw [hp]; decide), if_pos hp] at h0
    unfold atS
    rw [if_neg (by rw [hp]; decide)]
    split at h0
    · exact absurd h0 (by decide)
    · split at h0
      · exact absurd h0 (by decide)
      · split at h0
        · exact absurd h0 (by decide)
        · split at h0
          · exact absurd h0 (by decide)
          · rename_i hh
            by_cases hn : (nmB L 6 2 == 0 && !h.v) = false
            · right
              exact Decidable.not_not.1 (fun e => hh ⟨hn, e⟩)
            · left
              intro ao co ad cd
              unfold gotS
              rw [if_neg (by rw [hp]; decide)]
              simpa [udpS] using hn
/-- one bit of its bytes turned: it is no segment, or one without a sum. -/
theorem segE_turn {h : Ip} {s : Sg} {O D : List UInt8} (he : putE h s = 0) (hn : s.ns = false) (ls : h.sb.length = 16) (ld : h.db.length = 16) (hO : O.length = s.no) (hD : D.length = s.nd) {q : Nat} (hq : q < 8 * (segB h s O D).length) (h0 : segE h (turnL (segB h s O D) q) = 0) : ∀ ao co ad cd, (gotS h (turnL (segB h s O D) q) ao co ad cd).ns = true := by
  obtain ⟨hp, sp, hr, -, -⟩ := putE_zero he
  obtain ⟨h1, h2⟩ := atS_two he
  have ht := segB_told he hn ls ld hO hD
  have hl := len_segB (h := h) hr hO hD
  rcases segE_told hp h0 with h3 | h3
  · exact h3
  · rcases told_turn h (segB h s O D) (atS h.p) q ls ld h1 (by omega) hp hq with ⟨a, b⟩ | ⟨a, b⟩
    · exact absurd (by rw [← h3, a, ht]) b
    · exact absurd (by rw [h3, b, ht]) a
end Go.Proofs.Ytcfckhdohcaffaa
