import Derived.Test.YtihakjcccbionaaGreatDoorMka
import Derived.Test.YtihakjcccbionaaGreatDoorTurnm
import Derived.Test.YtihakjcccbionaaGreatDoorMkn
import Derived.Test.YtihakjcccbionaaGreatDoorMke
section
/-
  Mathematics: a segment's sum tells one bit that is turned, in its bytes or in the addresses.
-/
namespace Go.Proofs.YtihakjcccbionaaGreatDoor
open Go.RowKit
set_option linter.unusedVariables false
set_option linter.unusedSimpArgs false

/-- what a segment's sum is reckoned of ahead of its bytes; all of it. -/
def psB (h : Ip) (n : Nat) : List UInt8 := h.sb.take (adN h) ++ (h.db.take (adN h) ++ [b8 (h.p / 256), b8 h.p, b8 ((n : Int) / 256), b8 (n : Int)])
def allB (h : Ip) (b : List UInt8) (k : Nat) : List UInt8 := psB h b.length ++ (b.take k ++ b.drop (k + 2))
theorem adN_even (h : Ip) : adN h % 2 = 0 := by unfold adN; split <;> rfl
theorem len_takeA {l : List UInt8} (h : Ip) (hl : l.length = 16) : (l.take (adN h)).length = adN h := by rw [List.length_take, hl]; have := adN_le h; omega
theorem len_psB (h : Ip) (n : Nat) (ls : h.sb.length = 16) (ld : h.db.length = 16) : (psB h n).length = adN h + (adN h + 4) := by
  unfold psB
  rw [List.length_append, List.length_append, len_takeA h ls, len_takeA h ld]
  rfl
theorem addS_ps (h : Ip) (n : Nat) (ls : h.sb.length = 16) (ld : h.db.length = 16) : addS 0 (psB h n) = pseS { h with nd := n } := by
  unfold psB
  rw [addS_append _ _ _ (by rw [len_takeA h ls]; exact adN_even h), addS_append _ _ _ (by rw [len_takeA h ld]; exact adN_even h)]
  rfl
theorem addS_all (h : Ip) (b : List UInt8) (k : Nat) (ls : h.sb.length = 16) (ld : h.db.length = 16) (hk : k % 2 = 0) (hb : k ≤ b.length) : addS (addS (pseS { h with nd := b.length }) (b.take k)) (b.drop (k + 2)) = addS 0 (allB h b k) := by
  unfold allB
  rw [addS_append _ _ _ (by rw [len_psB h _ ls ld]; have := adN_even h; omega), addS_ps h _ ls ld, addS_append _ _ _ (by rw [List.length_take]; rw [Nat.min_eq_left hb]; exact hk)]
theorem sumV_all (h : Ip) (b : List UInt8) (k : Nat) (ls : h.sb.length = 16) (ld : h.db.length = 16) (hk : k % 2 = 0) (hb : k ≤ b.length) : sumV h b k = if inetS (allB h b k) = 0 ∧ h.p = 17 then 65535 else inetS (allB h b k) := by
  unfold sumV inetS
  rw [addS_all h b k ls ld hk hb]
theorem addS_zero : ∀ (s : Nat) (l : List UInt8), addS s l = 0 → s = 0 ∧ ∀ x ∈ l, x = 0
  | s, [], h => ⟨h, fun x hx => by cases hx⟩
  | s, [x], h => by
    have h1 : rnd s (x.toNat * 256) = 0 := h
    obtain ⟨h2, h3⟩ := rnd_zero h1
    refine ⟨h2, fun y hy => ?_⟩
    rw [List.mem_singleton] at hy
    subst hy
    exact UInt8.toNat.inj (by show y.toNat = 0; omega)
  | s, x :: y :: t, h => by
    have h1 : addS (rnd s (x.toNat * 256 + y.toNat)) t = 0 := h
    obtain ⟨h2, h3⟩ := addS_zero _ t h1
    obtain ⟨h4, h5⟩ := rnd_zero h2
    refine ⟨h4, fun z hz => ?_⟩
    rcases List.mem_cons.1 hz with rfl | hz
    · exact UInt8.toNat.inj (by show z.toNat = 0; omega)
    · rcases List.mem_cons.1 hz with rfl | hz
      · exact UInt8.toNat.inj (by show z.toNat = 0; omega)
      · exact h3 z hz
theorem all_ne (h : Ip) (b : List UInt8) (k : Nat) (hp : h.p = 6 ∨ h.p = 17) : inetS (allB h b k) ≠ 65535 := fun e => by
  unfold inetS at e
  have := addS_le 0 (allB h b k) (by omega)
  obtain ⟨-, h0⟩ := addS_zero 0 (allB h b k) (by omega)
  have := h0 (b8 h.p) (by unfold allB psB; simp)
  rcases hp with hp | hp <;> rw [hp] at this <;> exact absurd this (by decide)
/-- unlike bytes' sums are unlike ones. -/
theorem sumV_ne {h h' : Ip} {b b' : List UInt8} {k : Nat} (ls : h.sb.length = 16) (ld : h.db.length = 16) (ls' : h'.sb.length = 16) (ld' : h'.db.length = 16) (hk : k % 2 = 0) (hb : k ≤ b.length) (hb' : k ≤ b'.length) (hp : h.p = 6 ∨ h.p = 17) (hpp : h'.p = h.p) (hne : inetS (allB h' b' k) ≠ inetS (allB h b k)) : sumV h' b' k ≠ sumV h b k := by
  rw [sumV_all h b k ls ld hk hb, sumV_all h' b' k ls' ld' hk hb', hpp]
  have h1 := all_ne h b k hp
  have h2 := all_ne h' b' k (by rw [hpp]; exact hp)
  by_cases h17 : h.p = 17
  · split <;> split <;> omega
  · rw [if_neg (fun e => h17 e.2), if_neg (fun e => h17 e.2)]; exact hne
theorem turn_left (a b : List UInt8) {q : Nat} (hq : q < 8 * a.length) : turnL (a ++ b) q = turnL a q ++ b := by
  unfold turnL
  rw [List.set_append_left _ _ (by omega), List.getD_eq_getElem?_getD, List.getD_eq_getElem?_getD, List.getElem?_append_left (by omega)]
theorem turn_right (a b : List UInt8) {q : Nat} (hq : 8 * a.length ≤ q) : turnL (a ++ b) q = a ++ turnL b (q - 8 * a.length) := by
  unfold turnL
  rw [List.set_append_right _ _ (by omega), List.getD_eq_getElem?_getD, List.getD_eq_getElem?_getD, List.getElem?_append_right (by omega), show (q - 8 * a.length) / 8 = q / 8 - a.length by omega, show (q - 8 * a.length) % 8 = q % 8 by omega]
theorem turn_eq {l : List UInt8} {q : Nat} (hq : q < 8 * l.length) : turnL l q ≠ l := fun e => inet_turn hq (by rw [e])
theorem allB_split (h : Ip) (a m d : List UInt8) (hm : m.length = 2) : allB h (a ++ (m ++ d)) a.length = psB h (a.length + (2 + d.length)) ++ (a ++ d) := by
  unfold allB
  rw [List.length_append, List.length_append, hm, List.take_left', List.drop_append, List.drop_of_length_le (l := a) (by omega), show a.length + 2 - a.length = m.length by omega, List.drop_left, List.nil_append]
  rfl
theorem nmB_split (a m d : List UInt8) (hm : m.length = 2) : nmB (a ++ (m ++ d)) a.length 2 = numS m := by
  unfold nmB
  rw [List.drop_left, ← hm, List.take_left]
theorem numS_two_inj {m m' : List UInt8} (h1 : m.length = 2) (h2 : m'.length = 2) (h : numS m = numS m') : m = m' := by
  match m, m', h1, h2 with
  | [x, y], [u, v], _, _ =>
    have e : x.toNat * 256 + y.toNat = u.toNat * 256 + v.toNat := by
      simp [numS] at h
      omega
    have a1 := x.toNat_lt
    have a2 := y.toNat_lt
    have a3 := u.toNat_lt
    have a4 := v.toNat_lt
    rw [UInt8.toNat.inj (show x.toNat = u.toNat by omega), UInt8.toNat.inj (show y.toNat = v.toNat by omega)]
/-- one bit that is turned in a segment's bytes: what its sum is told to be, or what it has to be, is another number. -/
theorem told_turn (h : Ip) (b : List UInt8) (k q : Nat) (ls : h.sb.length = 16) (ld : h.db.length = 16) (hk : k % 2 = 0) (hb : k + 2 ≤ b.length) (hp : h.p = 6 ∨ h.p = 17) (hq : q < 8 * b.length) :
    (nmB (turnL b q) k 2 = nmB b k 2 ∧ sumV h (turnL b q) k ≠ sumV h b k) ∨ (nmB (turnL b q) k 2 ≠ nmB b k 2 ∧ sumV h (turnL b q) k = sumV h b k) := by
  obtain ⟨a, m, d, hb2, ha, hm⟩ : ∃ a m d, b = a ++ (m ++ d) ∧ a.length = k ∧ m.length = 2 := ⟨b.take k, (b.drop k).take 2, (b.drop k).drop 2, by rw [List.take_append_drop, List.take_append_drop], by rw [List.length_take]; omega, by rw [List.length_take, List.length_drop]; omega⟩
  have hlt := length_turnL b q
  have key : ∀ a' d' : List UInt8, a'.length = a.length → d'.length = d.length → turnL b q = a' ++ (m ++ d') → inetS (psB h (a.length + (2 + d.length)) ++ (a' ++ d')) ≠ inetS (psB h (a.length + (2 + d.length)) ++ (a ++ d)) → (nmB (turnL b q) k 2 = nmB b k 2 ∧ sumV h (turnL b q) k ≠ sumV h b k) := fun a' d' ha' hd' he hne => by
    refine ⟨?_, sumV_ne ls ld ls ld hk (by omega) (by rw [hlt]; omega) hp rfl ?_⟩
    · rw [he, hb2, ← ha, nmB_split a m d hm, ← ha', nmB_split a' m d' hm]
    · rw [he, hb2, ← ha, allB_split h a m d hm, ← ha', allB_split h a' m d' hm, ha', hd']
      exact hne
  have hbl : b.length = a.length + (2 + d.length) := by rw [hb2, List.length_append, List.length_append, hm]
  by_cases h1 : q < 8 * a.length
  · left
    refine key (turnL a q) d (length_turnL _ _) rfl (by rw [hb2, turn_left _ _ h1]) ?_
    have e : psB h (a.length + (2 + d.length)) ++ (turnL a q ++ d) = turnL (psB h (a.length + (2 + d.length)) ++ (a ++ d)) (q + 8 * (psB h (a.length + (2 + d.length))).length) := by
      rw [turn_right _ _ (by omega), Nat.add_sub_cancel, turn_left _ _ h1]
    rw [e]
    exact inet_turn (by rw [List.length_append, List.length_append]; omega)
  · by_cases h2 : q < 8 * (a.length + 2)
    · right
      have e : turnL b q = a ++ (turnL m (q - 8 * a.length) ++ d) := by rw [hb2, turn_right _ _ (by omega), turn_left _ _ (by omega)]
      have hm2 : (turnL m (q - 8 * a.length)).length = 2 := by rw [length_turnL]; exact hm
      refine ⟨?_, ?_⟩
      · rw [e, hb2, ← ha, nmB_split a m d hm, nmB_split a _ d hm2]
        exact fun e => turn_eq (by omega) (numS_two_inj hm2 hm e)
      · rw [sumV_all h b k ls ld hk (by omega), sumV_all h (turnL b q) k ls ld hk (by rw [hlt]; omega), e, hb2, ← ha, allB_split h a m d hm, allB_split h a _ d hm2]
    · left
      refine key a (turnL d (q - 8 * (a.length + 2))) rfl (length_turnL _ _) (by rw [hb2, turn_right _ _ (by omega), turn_right _ _ (by omega), hm, show q - 8 * a.length - 8 * 2 = q - 8 * (a.length + 2) by omega]) ?_
      have e : psB h (a.length + (2 + d.length)) ++ (a ++ turnL d (q - 8 * (a.length + 2))) = turnL (psB h (a.length + (2 + d.length)) ++ (a ++ d)) (q - 8 * (a.length + 2) + 8 * a.length + 8 * (psB h (a.length + (2 + d.length))).length) := by
        rw [turn_right _ _ (by omega), Nat.add_sub_cancel, turn_right _ _ (by omega), Nat.add_sub_cancel]
      rw [e]
      exact inet_turn (by rw [List.length_append, List.length_append]; omega)
/-- one bit of an address of a packet. -/
theorem sum_moved {h h' : Ip} (b : List UInt8) (k q : Nat) (from' : Bool) (ls : h.sb.length = 16) (ld : h.db.length = 16) (hk : k % 2 = 0) (hb : k ≤ b.length) (hp : h.p = 6 ∨ h.p = 17) (hpp : h'.p = h.p) (hv : h'.v = h.v) (hq : q < 8 * adN h)
    (hs : h'.sb = if from' then turnL h.sb q else h.sb) (hd : h'.db = if from' then h.db else turnL h.db q) : sumV h' b k ≠ sumV h b k := by
  have ea : adN h' = adN h := by unfold adN; rw [hv]
  have ls' : h'.sb.length = 16 := by rw [hs]; split <;> simp [length_turnL, ls]
  have ld' : h'.db.length = 16 := by rw [hd]; split <;> simp [length_turnL, ld]
  refine sumV_ne ls ld ls' ld' hk hb hb hp hpp ?_
  have tk : ∀ l : List UInt8, l.length = 16 → (turnL l q).take (adN h) = turnL (l.take (adN h)) q := fun l hl => by
    have h1 := turn_left (l.take (adN h)) (l.drop (adN h)) (q := q) (by rw [len_takeA h hl]; exact hq)
    rw [List.take_append_drop] at h1
    rw [h1, List.take_left' (by rw [length_turnL, len_takeA h hl])]
  have hla : ∀ l : List UInt8, l.length = 16 → q < 8 * (l.take (adN h)).length := fun l hl => by rw [len_takeA h hl]; exact hq
  unfold allB psB
  rw [ea, hpp, hs, hd]
  cases from'
  · simp only [Bool.false_eq_true, if_false]
    rw [tk _ ld, List.append_assoc, List.append_assoc, List.append_assoc, List.append_assoc, ← turn_left _ _ (hla _ ld)]
    have e := turn_right (h.sb.take (adN h)) (h.db.take (adN h) ++ ([b8 (h.p / 256), b8 h.p, b8 ((b.length : Int) / 256), b8 (b.length : Int)] ++ (b.take k ++ b.drop (k + 2)))) (q := q + 8 * (h.sb.take (adN h)).length) (by omega)
    rw [Nat.add_sub_cancel] at e
    rw [← e]
    refine inet_turn ?_
    rw [List.length_append, List.length_append]
    have := hla _ ld
    omega
  · simp only [if_true]
    rw [tk _ ls, List.append_assoc, List.append_assoc, List.append_assoc, List.append_assoc, ← turn_left _ _ (hla _ ls)]
    refine inet_turn ?_
    rw [List.length_append]
    have := hla _ ls
    omega
end Go.Proofs.YtihakjcccbionaaGreatDoor

end
section
/-
  Mathematics: a segment's bytes have the sum that they are told to have; one bit turned, or of an address, is told.
-/
namespace Go.Proofs.YtihakjcccbionaaGreatDoor
open Go.RowKit
set_option linter.unusedVariables false
set_option linter.unusedSimpArgs false

theorem b8_pair {N : Nat} (h : N ≤ 65535) : numS [b8 ((N : Int) / 256), b8 (N : Int)] = N := by
  have h1 : (b8 ((N : Int) / 256)).toNat = N / 256 := by
    unfold b8
    rw [UInt8.toNat_ofNat']
    omega
  have h2 : (b8 (N : Int)).toNat = N % 256 := by
    unfold b8
    rw [UInt8.toNat_ofNat']
    omega
  simp [numS, h1, h2]
  omega
theorem set_two (a d : List UInt8) (x y u v : UInt8) : ((a ++ ([x, y] ++ d)).set a.length u).set (a.length + 1) v = a ++ ([u, v] ++ d) := by
  rw [List.set_append_right _ _ (Nat.le_refl _), Nat.sub_self, List.set_append_right _ _ (by omega), Nat.add_sub_cancel_left]
  rfl
theorem split_at {b : List UInt8} {k : Nat} (h : k + 2 ≤ b.length) : ∃ a x y d, b = a ++ ([x, y] ++ d) ∧ a.length = k := by
  have hl : ((b.drop k).take 2).length = 2 := by rw [List.length_take, List.length_drop]; omega
  match hm : (b.drop k).take 2, hl with
  | [x, y], _ =>
    exact ⟨b.take k, x, y, (b.drop k).drop 2, by rw [← hm, List.take_append_drop, List.take_append_drop], by rw [List.length_take]; omega⟩
/-- what stands in the sum's place changes the sum not. -/
theorem sumV_put (h : Ip) (b : List UInt8) (k : Nat) (u v : UInt8) (ls : h.sb.length = 16) (ld : h.db.length = 16) (hk : k % 2 = 0) (hb : k + 2 ≤ b.length) : sumV h ((b.set k u).set (k + 1) v) k = sumV h b k := by
  obtain ⟨a, x, y, d, rfl, rfl⟩ := split_at hb
  rw [set_two, sumV_all _ _ _ ls ld hk (by simp), sumV_all _ _ _ ls ld hk (by simp), allB_split h a [u, v] d rfl, allB_split h a [x, y] d rfl]
theorem told_put (b : List UInt8) (k N : Nat) (hN : N ≤ 65535) (hb : k + 2 ≤ b.length) : nmB ((b.set k (b8 ((N : Int) / 256))).set (k + 1) (b8 (N : Int))) k 2 = N := by
  obtain ⟨a, x, y, d, rfl, rfl⟩ := split_at hb
  rw [set_two, nmB_split a _ d rfl, b8_pair hN]
theorem putE_zero {h : Ip} {s : Sg} (he : putE h s = 0) : (h.p = 6 ∨ h.p = 17) ∧ s.p = h.p ∧ rightS s = true ∧ (s.ns && h.v) = false ∧ hdN s + s.nd ≤ 65535 := by
  unfold putE at he
  by_cases h1 : (h.p = 6 ∨ h.p = 17) ∧ s.p = h.p
  · rw [if_pos h1] at he
    by_cases h2 : rightS s = true ∧ (s.ns && h.v) = false
    · rw [if_pos h2] at he
      by_cases h3 : 65535 < hdN s + s.nd
      · rw [if_pos h3] at he; exact absurd he (by decide)
      · exact ⟨h1.1, h1.2, h2.1, h2.2, by omega⟩
    · rw [if_neg h2] at he; exact absurd he (by decide)
  · rw [if_neg h1] at he; exact absurd he (by decide)
theorem len_seg0 {s : Sg} {O D : List UInt8} (hr : rightS s = true) (hO : O.length = s.no) (hD : D.length = s.nd) : (seg0 s O D).length = hdN s + s.nd := by
  unfold seg0 hdN
  rw [List.length_append, List.length_append, len_hdB, hO, hD]
  obtain ⟨-, -, h6, h17⟩ := rightS_facts hr
  split
  · rfl
  · rename_i hn; have := (h17 hn).2.2.2.2.2; omega
theorem len_segB {h : Ip} {s : Sg} {O D : List UInt8} (hr : rightS s = true) (hO : O.length = s.no) (hD : D.length = s.nd) : (segB h s O D).length = hdN s + s.nd := by
  unfold segB
  split
  · exact len_seg0 hr hO hD
  · rw [List.length_set, List.length_set, len_seg0 hr hO hD]
theorem atS_two {h : Ip} {s : Sg} (he : putE h s = 0) : atS h.p % 2 = 0 ∧ atS h.p + 2 ≤ hdN s := by
  obtain ⟨hp, sp, -, -, -⟩ := putE_zero he
  unfold atS hdN
  rw [sp]
  rcases hp with hp | hp <;> rw [hp] <;> simp <;> omega
/-- a segment with a sum: it has the one that it is told to have. -/
theorem segB_told {h : Ip} {s : Sg} {O D : List UInt8} (he : putE h s = 0) (hn : s.ns = false) (ls : h.sb.length = 16) (ld : h.db.length = 16) (hO : O.length = s.no) (hD : D.length = s.nd) : nmB (segB h s O D) (atS h.p) 2 = sumV h (segB h s O D) (atS h.p) := by
  obtain ⟨hp, sp, hr, -, -⟩ := putE_zero he
  obtain ⟨h1, h2⟩ := atS_two he
  have hl := len_seg0 hr hO hD
  unfold segB
  rw [hn]
  simp only [Bool.false_eq_true, if_false]
  rw [sumV_put h _ _ _ _ ls ld h1 (by omega), told_put _ _ _ (sumV_le _ _ _) (by omega)]
theorem segE_told {h : Ip} {L : List UInt8} (hp : h.p = 6 ∨ h.p = 17) (h0 : segE h L = 0) : (∀ ao co ad cd, (gotS h L ao co ad cd).ns = true) ∨ nmB L (atS h.p) 2 = sumV h L (atS h.p) := by
  rcases hp with hp | hp
  · right
    unfold segE tcpE at h0
    rw [if_pos hp] at h0
    unfold atS
    rw [if_pos hp]
    split at h0
    · exact absurd h0 (by decide)
    · split at h0
      · exact absurd h0 (by decide)
      · split at h0
        · exact absurd h0 (by decide)
        · split at h0
          · exact absurd h0 (by decide)
          · rename_i h; exact Decidable.not_not.1 h
  · unfold segE udpE at h0
    rw [if_neg (by rw [hp]; decide), if_pos hp] at h0
    unfold atS
    rw [if_neg (by rw [hp]; decide)]
    split at h0
    · exact absurd h0 (by decide)
    · split at h0
      · exact absurd h0 (by decide)
      · split at h0
        · exact absurd h0 (by decide)
        · split at h0
          · exact absurd h0 (by decide)
          · rename_i hh
            by_cases hn : (nmB L 6 2 == 0 && !h.v) = false
            · right
              exact Decidable.not_not.1 (fun e => hh ⟨hn, e⟩)
            · left
              intro ao co ad cd
              unfold gotS
              rw [if_neg (by rw [hp]; decide)]
              simpa [udpS] using hn
/-- one bit of its bytes turned: it is no segment, or one without a sum. -/
theorem segE_turn {h : Ip} {s : Sg} {O D : List UInt8} (he : putE h s = 0) (hn : s.ns = false) (ls : h.sb.length = 16) (ld : h.db.length = 16) (hO : O.length = s.no) (hD : D.length = s.nd) {q : Nat} (hq : q < 8 * (segB h s O D).length) (h0 : segE h (turnL (segB h s O D) q) = 0) : ∀ ao co ad cd, (gotS h (turnL (segB h s O D) q) ao co ad cd).ns = true := by
  obtain ⟨hp, sp, hr, -, -⟩ := putE_zero he
  obtain ⟨h1, h2⟩ := atS_two he
  have ht := segB_told he hn ls ld hO hD
  have hl := len_segB (h := h) hr hO hD
  rcases segE_told hp h0 with h3 | h3
  · exact h3
  · rcases told_turn h (segB h s O D) (atS h.p) q ls ld h1 (by omega) hp hq with ⟨a, b⟩ | ⟨a, b⟩
    · exact absurd (by rw [← h3, a, ht]) b
    · exact absurd (by rw [h3, b, ht]) a
end Go.Proofs.YtihakjcccbionaaGreatDoor

end
section
/-
  Mathematics: what is read of a segment's bytes.
-/
namespace Go.Proofs.YtihakjcccbionaaGreatDoor
open Go.RowKit
set_option linter.unusedVariables false
set_option linter.unusedSimpArgs false

theorem b8_nat (N : Nat) : b8 ((N : Int) / 256) = UInt8.ofNat (N / 256) ∧ b8 (N : Int) = UInt8.ofNat N := by
  constructor
  · apply UInt8.toNat.inj
    unfold b8
    rw [UInt8.toNat_ofNat', UInt8.toNat_ofNat']
    omega
  · apply UInt8.toNat.inj
    unfold b8
    rw [UInt8.toNat_ofNat', UInt8.toNat_ofNat']
    omega
theorem num_two (N : Nat) : [b8 ((N : Int) / 256), b8 (N : Int)] = numBytes N 2 2 := by
  obtain ⟨h1, h2⟩ := b8_nat N
  rw [h1, h2]
  have e : numBytes N 2 2 = [UInt8.ofNat (N / 256), UInt8.ofNat (N / 1)] := rfl
  rw [e, Nat.div_one]
/-- the numbers ahead of a segment's sum, of TCP and of UDP. -/
def preT (s : Sg) : List UInt8 := numBytes s.a.toNat 2 2 ++ (numBytes s.b.toNat 2 2 ++ (numBytes s.q 4 4 ++ (numBytes s.k 4 4 ++ (numBytes ((20 + s.no) / 4 * 16) 1 1 ++ (numBytes s.f.toNat 1 1 ++ numBytes s.wn.toNat 2 2)))))
def preU (s : Sg) : List UInt8 := numBytes s.a.toNat 2 2 ++ (numBytes s.b.toNat 2 2 ++ numBytes (8 + s.nd) 2 2)
theorem len_preT (s : Sg) : (preT s).length = 16 := by simp [preT, length_numBytes]
theorem len_preU (s : Sg) : (preU s).length = 6 := by simp [preU, length_numBytes]
theorem seg0_T {s : Sg} (h6 : s.p = 6) (O D : List UInt8) : seg0 s O D = preT s ++ ([0, 0] ++ (numBytes s.u.toNat 2 2 ++ (O ++ D))) := by
  unfold seg0 hdB
  rw [if_pos h6]
  have e : ([0, 0] : List UInt8) = numBytes 0 2 2 := rfl
  rw [e]
  simp [fldB, tcpF, preT]
theorem seg0_U {s : Sg} (h6 : s.p ≠ 6) (O D : List UInt8) : seg0 s O D = preU s ++ ([0, 0] ++ (O ++ D)) := by
  unfold seg0 hdB
  rw [if_neg h6]
  have e : ([0, 0] : List UInt8) = numBytes 0 2 2 := rfl
  rw [e]
  simp [fldB, preU]
/-- the number that stands in the sum's place. -/
def sumN (h : Ip) (s : Sg) (O D : List UInt8) : Nat := if s.ns then 0 else sumV h (seg0 s O D) (atS h.p)
theorem sumN_le (h : Ip) (s : Sg) (O D : List UInt8) : sumN h s O D ≤ 65535 := by unfold sumN; split; exact Nat.zero_le _; exact sumV_le _ _ _
theorem segB_T {h : Ip} {s : Sg} {O D : List UInt8} (he : putE h s = 0) (h6 : s.p = 6) : segB h s O D = preT s ++ (numBytes (sumN h s O D) 2 2 ++ (numBytes s.u.toNat 2 2 ++ (O ++ D))) := by
  obtain ⟨hp, sp, hr, -, -⟩ := putE_zero he
  have hns := ((rightS_facts hr).2.2.1 h6).2.2.2.2.2
  have h16 : atS h.p = (preT s).length := by rw [len_preT]; unfold atS; rw [← sp, if_pos h6]
  unfold segB sumN
  rw [hns]
  simp only [Bool.false_eq_true, if_false]
  generalize sumV h (seg0 s O D) (atS h.p) = N
  rw [seg0_T h6, h16, set_two, num_two]
theorem segB_U {h : Ip} {s : Sg} {O D : List UInt8} (he : putE h s = 0) (h6 : s.p ≠ 6) : segB h s O D = preU s ++ (numBytes (sumN h s O D) 2 2 ++ (O ++ D)) := by
  obtain ⟨hp, sp, hr, -, -⟩ := putE_zero he
  have hk : atS h.p = (preU s).length := by rw [len_preU]; unfold atS; rw [← sp, if_neg h6]
  unfold segB sumN
  cases hn : s.ns
  · simp only [Bool.false_eq_true, if_false]
    generalize sumV h (seg0 s O D) (atS h.p) = N
    rw [seg0_U h6, hk, set_two, num_two]
  · simp only [if_true]
    rw [seg0_U h6]
    rfl
structure TcpP (s : Sg) (N : Nat) (O D L : List UInt8) : Prop where
  a : nmB L 0 2 = s.a.toNat
  b : nmB L 2 2 = s.b.toNat
  q : nmB L 4 4 = s.q
  k : nmB L 8 4 = s.k
  wd : nmB L 12 1 = (20 + s.no) / 4 * 16
  f : nmB L 13 1 = s.f.toNat
  wn : nmB L 14 2 = s.wn.toNat
  sm : nmB L 16 2 = N
  u : nmB L 18 2 = s.u.toNat
  dr : L.drop 20 = O ++ D
theorem tcp_of {h : Ip} {s : Sg} {O D : List UInt8} (he : putE h s = 0) (h6 : s.p = 6) (hq : s.q < 4294967296) (hk : s.k < 4294967296) : TcpP s (sumN h s O D) O D (segB h s O D) := by
  obtain ⟨hp, sp, hr, -, -⟩ := putE_zero he
  obtain ⟨⟨q1, q2⟩, ⟨q3, q4⟩, q, -⟩ := rightS_facts hr
  obtain ⟨⟨q5, q6⟩, ⟨q7, q8⟩, ⟨q9, q10⟩, q11, -, -⟩ := q h6
  have e : segB h s O D = numBytes s.a.toNat 2 2 ++ (numBytes s.b.toNat 2 2 ++ (numBytes s.q 4 4 ++ (numBytes s.k 4 4 ++ (numBytes ((20 + s.no) / 4 * 16) 1 1 ++ (numBytes s.f.toNat 1 1 ++ (numBytes s.wn.toNat 2 2 ++ (numBytes (sumN h s O D) 2 2 ++ (numBytes s.u.toNat 2 2 ++ (O ++ D))))))))) := by
    rw [segB_T he h6]; simp [preT]
  have hN := sumN_le h s O D
  rw [e]
  refine ⟨?_, ?_, ?_, ?_, ?_, ?_, ?_, ?_, ?_, ?_⟩
  · rw [nm_here _ (by omega)]
  · rw [nm_skip 0 (by simp [length_numBytes]), nm_here _ (by omega)]
  · rw [nm_skip 2 (by simp [length_numBytes]), nm_skip 0 (by simp [length_numBytes]), nm_here _ (by omega)]
  · rw [nm_skip 6 (by simp [length_numBytes]), nm_skip 4 (by simp [length_numBytes]), nm_skip 0 (by simp [length_numBytes]), nm_here _ (by omega)]
  · rw [nm_skip 10 (by simp [length_numBytes]), nm_skip 8 (by simp [length_numBytes]), nm_skip 4 (by simp [length_numBytes]), nm_skip 0 (by simp [length_numBytes]), nm_here _ (by omega)]
  · rw [nm_skip 11 (by simp [length_numBytes]), nm_skip 9 (by simp [length_numBytes]), nm_skip 5 (by simp [length_numBytes]), nm_skip 1 (by simp [length_numBytes]), nm_skip 0 (by simp [length_numBytes]), nm_here _ (by omega)]
  · rw [nm_skip 12 (by simp [length_numBytes]), nm_skip 10 (by simp [length_numBytes]), nm_skip 6 (by simp [length_numBytes]), nm_skip 2 (by simp [length_numBytes]), nm_skip 1 (by simp [length_numBytes]), nm_skip 0 (by simp [length_numBytes]), nm_here _ (by omega)]
  · rw [nm_skip 14 (by simp [length_numBytes]), nm_skip 12 (by simp [length_numBytes]), nm_skip 8 (by simp [length_numBytes]), nm_skip 4 (by simp [length_numBytes]), nm_skip 3 (by simp [length_numBytes]), nm_skip 2 (by simp [length_numBytes]), nm_skip 0 (by simp [length_numBytes]), nm_here _ (by omega)]
  · rw [nm_skip 16 (by simp [length_numBytes]), nm_skip 14 (by simp [length_numBytes]), nm_skip 10 (by simp [length_numBytes]), nm_skip 6 (by simp [length_numBytes]), nm_skip 5 (by simp [length_numBytes]), nm_skip 4 (by simp [length_numBytes]), nm_skip 2 (by simp [length_numBytes]), nm_skip 0 (by simp [length_numBytes]), nm_here _ (by omega)]
  · have e2 : ∀ P R : List UInt8, P.length = 20 → (P ++ R).drop 20 = R := fun P R hl => by rw [← hl, List.drop_left]
    have e3 := e2 (numBytes s.a.toNat 2 2 ++ (numBytes s.b.toNat 2 2 ++ (numBytes s.q 4 4 ++ (numBytes s.k 4 4 ++ (numBytes ((20 + s.no) / 4 * 16) 1 1 ++ (numBytes s.f.toNat 1 1 ++ (numBytes s.wn.toNat 2 2 ++ (numBytes (sumN h s O D) 2 2 ++ numBytes s.u.toNat 2 2)))))))) (O ++ D) (by simp [length_numBytes])
    simpa using e3
structure UdpP (s : Sg) (N : Nat) (O D L : List UInt8) : Prop where
  a : nmB L 0 2 = s.a.toNat
  b : nmB L 2 2 = s.b.toNat
  n : nmB L 4 2 = 8 + s.nd
  sm : nmB L 6 2 = N
  dr : L.drop 8 = O ++ D
theorem udp_of {h : Ip} {s : Sg} {O D : List UInt8} (he : putE h s = 0) (h6 : s.p ≠ 6) : UdpP s (sumN h s O D) O D (segB h s O D) := by
  obtain ⟨hp, sp, hr, -, hsz⟩ := putE_zero he
  obtain ⟨⟨q1, q2⟩, ⟨q3, q4⟩, -, -⟩ := rightS_facts hr
  have e : segB h s O D = numBytes s.a.toNat 2 2 ++ (numBytes s.b.toNat 2 2 ++ (numBytes (8 + s.nd) 2 2 ++ (numBytes (sumN h s O D) 2 2 ++ (O ++ D)))) := by
    rw [segB_U he h6]; simp [preU]
  have hN := sumN_le h s O D
  have hn : 8 + s.nd ≤ 65535 := by unfold hdN at hsz; rw [if_neg h6] at hsz; exact hsz
  rw [e]
  refine ⟨?_, ?_, ?_, ?_, ?_⟩
  · rw [nm_here _ (by omega)]
  · rw [nm_skip 0 (by simp [length_numBytes]), nm_here _ (by omega)]
  · rw [nm_skip 2 (by simp [length_numBytes]), nm_skip 0 (by simp [length_numBytes]), nm_here _ (by omega)]
  · rw [nm_skip 4 (by simp [length_numBytes]), nm_skip 2 (by simp [length_numBytes]), nm_skip 0 (by simp [length_numBytes]), nm_here _ (by omega)]
  · have e2 : ∀ P R : List UInt8, P.length = 8 → (P ++ R).drop 8 = R := fun P R hl => by rw [← hl, List.drop_left]
    have e3 := e2 (numBytes s.a.toNat 2 2 ++ (numBytes s.b.toNat 2 2 ++ (numBytes (8 + s.nd) 2 2 ++ numBytes (sumN h s O D) 2 2))) (O ++ D) (by simp [length_numBytes])
    simpa using e3
theorem sumN_told {h : Ip} {s : Sg} {O D : List UInt8} (he : putE h s = 0) (hn : s.ns = false) (ls : h.sb.length = 16) (ld : h.db.length = 16) (hO : O.length = s.no) (hD : D.length = s.nd) : sumN h s O D = sumV h (segB h s O D) (atS h.p) := by
  obtain ⟨hp, sp, hr, -, -⟩ := putE_zero he
  obtain ⟨h1, h2⟩ := atS_two he
  have hl := len_seg0 hr hO hD
  unfold segB sumN
  rw [hn]
  simp only [Bool.false_eq_true, if_false]
  rw [sumV_put h _ _ _ _ ls ld h1 (by omega)]
/-- a segment's bytes are read within whatever packet of its protocol: all is as it must be, but for the sum. -/
theorem segE_of {h h' : Ip} {s : Sg} {O D : List UInt8} (he : putE h s = 0) (hpp : h'.p = h.p) (hv : h'.v = h.v) (ls : h.sb.length = 16) (ld : h.db.length = 16) (hO : O.length = s.no) (hD : D.length = s.nd) (hq : s.q < 4294967296) (hk : s.k < 4294967296) : segE h' (segB h s O D) = if s.ns = false ∧ sumN h s O D ≠ sumV h' (segB h s O D) (atS h.p) then 12 else 0 := by
  obtain ⟨hp, sp, hr, hnv, -⟩ := putE_zero he
  have hl := len_segB (h := h) hr hO hD
  by_cases h6 : s.p = 6
  · have t := tcp_of (O := O) (D := D) he h6 hq hk
    obtain ⟨-, -, qq, -⟩ := rightS_facts hr
    obtain ⟨-, -, -, q11, q12, hns⟩ := qq h6
    unfold hdN at hl
    rw [if_pos h6] at hl
    unfold segE tcpE hdT atS
    rw [hpp, ← sp, if_pos h6, if_pos h6, t.wd, t.sm, if_neg (by omega), if_neg (by omega), if_neg (by omega), hns]
    by_cases hs : sumN h s O D ≠ sumV h' (segB h s O D) 16
    · rw [if_pos hs, if_pos ⟨rfl, hs⟩]
    · rw [if_neg hs, if_neg (fun e => hs e.2)]
  · have t := udp_of (O := O) (D := D) he h6
    have h17 : h.p = 17 := by rcases hp with hp | hp; exact absurd (sp.trans hp) h6; exact hp
    unfold hdN at hl
    rw [if_neg h6] at hl
    unfold segE udpE atS
    rw [hpp, h17, if_neg (by decide), if_pos rfl, if_neg (by omega), t.n, t.sm, if_neg (by omega), if_neg (by omega), hv, if_neg (show ¬ (17 : Int) = 6 by decide)]
    have key : (sumN h s O D == 0 && !h.v) = s.ns := by
      cases hn : s.ns
      · have h0 : sumN h s O D ≠ 0 := by
          unfold sumN
          rw [hn]
          exact sumV_pos h _ _ h17
        simp [h0]
      · have h0 : sumN h s O D = 0 := by unfold sumN; rw [hn]; rfl
        rw [hn] at hnv
        have : h.v = false := by simpa using hnv
        simp [h0, this]
    rw [key]
/-- it is read as what it was. -/
theorem gotS_of {h : Ip} {s : Sg} {O D : List UInt8} (he : putE h s = 0) (hO : O.length = s.no) (hD : D.length = s.nd) (hq : s.q < 4294967296) (hk : s.k < 4294967296) (ao ad : Option Addr) (co cd : Nat) : (∃ ao' co', gotS h (segB h s O D) ao co ad cd = { s with ao := ao', co := co', ad := ad, cd := cd } ∧ (ao' = ao ∧ co' = co ∨ ao' = none ∧ co' = 0 ∧ O = [])) ∧ optS h (segB h s O D) = O ∧ datS h (segB h s O D) = D := by
  obtain ⟨hp, sp, hr, hnv, -⟩ := putE_zero he
  have hl := len_segB (h := h) hr hO hD
  obtain ⟨⟨q1, q2⟩, ⟨q3, q4⟩, q, qu⟩ := rightS_facts hr
  by_cases h6 : s.p = 6
  · have t := tcp_of (O := O) (D := D) he h6 hq hk
    obtain ⟨⟨q5, q6⟩, ⟨q7, q8⟩, ⟨q9, q10⟩, q11, q12, hns⟩ := q h6
    unfold hdN at hl
    rw [if_pos h6] at hl
    have hT : hdT (segB h s O D) = 20 + s.no := by unfold hdT; rw [t.wd]; omega
    refine ⟨⟨ao, co, ?_, .inl ⟨rfl, rfl⟩⟩, ?_, ?_⟩
    · unfold gotS tcpS
      rw [← sp, if_pos h6, hT, t.a, t.b, t.q, t.k, t.f, t.wn, t.u, hl, Int.toNat_of_nonneg q1, Int.toNat_of_nonneg q3, Int.toNat_of_nonneg q5, Int.toNat_of_nonneg q7, Int.toNat_of_nonneg q9, show 20 + s.no - 20 = s.no by omega, show 20 + s.no + s.nd - (20 + s.no) = s.nd by omega, ← h6, ← hns]
    · unfold optS
      rw [← sp, if_pos h6, hT, t.dr, show 20 + s.no - 20 = O.length by omega, List.take_left]
    · unfold datS hdS
      rw [← sp, if_pos h6, hT, ← List.drop_drop, t.dr, ← hO, List.drop_left]
  · have t := udp_of (O := O) (D := D) he h6
    have h17 : h.p = 17 := by rcases hp with hp | hp; exact absurd (sp.trans hp) h6; exact hp
    obtain ⟨u1, u2, u3, u4, u5, u6⟩ := qu h6
    have hO0 : O = [] := List.eq_nil_of_length_eq_zero (by omega)
    unfold hdN at hl
    rw [if_neg h6] at hl
    have key : (sumN h s O D == 0 && !h.v) = s.ns := by
      cases hn : s.ns
      · have h0 : sumN h s O D ≠ 0 := by
          unfold sumN
          rw [hn]
          exact sumV_pos h _ _ h17
        simp [h0]
      · have h0 : sumN h s O D = 0 := by unfold sumN; rw [hn]; rfl
        rw [hn] at hnv
        have : h.v = false := by simpa using hnv
        simp [h0, this]
    refine ⟨⟨none, 0, ?_, .inr ⟨rfl, rfl, hO0⟩⟩, ?_, ?_⟩
    · unfold gotS udpS
      rw [h17, if_neg (by decide), t.a, t.b, t.sm, key, hl, Int.toNat_of_nonneg q1, Int.toNat_of_nonneg q3, show 8 + s.nd - 8 = s.nd by omega, show (17 : Int) = s.p by rw [sp, h17], ← u6]
      cases s
      simp_all
    · unfold optS
      rw [h17, if_neg (by decide), hO0]
    · unfold datS hdS
      rw [h17, if_neg (by decide), t.dr, hO0]
      rfl
end Go.Proofs.YtihakjcccbionaaGreatDoor

end
