/-
  Mathematics: a segment's sum tells one bit that is turned, in its bytes or in the addresses.
-/
import Derived.Test.YtcfckhdohcaffaaMka
import Derived.Test.YtcfckhdohcaffaaTurnm
namespace Go.Proofs.Ytcfckhdohcaffaa
open Go.RowKit
set_option linter.unusedVariables false
set_option linter.unusedSimpArgs false

/-- what a segment's sum is reckoned of ahead of its bytes; all of it. -/
def psB (h : Ip) (n : Nat) : List UInt8 := h.sb.take (adN h) ++ (h.db.take (adN h) ++ [b8 (h.p / 256), b8 h.p, b8 ((n : Int) / 256), b8 (n : Int)])
def allB (h : Ip) (b : List UInt8) (k : Nat) : List UInt8 := psB h b.length ++ (b.take k ++ b.drop (k + 2))
theorem adN_even (h : Ip) : adN h % 2 = 0 := by unfold adN; split <;> rfl
theorem len_takeA {l : List UInt8} (h : Ip) (hl : l.length = 16) : (l.take (adN h)).length = adN h := by rw [List.length_take, hl]; have := adN_le h; omega
theorem len_psB (h : Ip) (n : Nat) (ls : h.sb.length = 16) (ld : h.db.length = 16) : (psB h n).length = adN h + (adN h + 4) := by
  unfold psB
  rw [List.length_append, List.length_append, len_takeA h ls, len_takeA h ld]
  rfl
theorem addS_ps (h : Ip) (n : Nat) (ls : h.sb.length = 16) (ld : h.db.length = 16) : addS 0 (psB h n) = pseS { h with nd := n } := by
  unfold psB
  rw [addS_append _ _ _ (by rw [len_takeA h ls]; exact adN_even h), addS_append _ _ _ (by rw [len_takeA h ld]; exact adN_even h)]
  rfl
theorem addS_all (h : Ip) (b : List UInt8) (k : Nat) (ls : h.sb.length = 16) (ld : h.db.length = 16) (hk : k % 2 = 0) (hb : k ≤ b.length) : addS (addS (pseS { h with nd := b.length }) (b.take k)) (b.drop (k + 2)) = addS 0 (allB h b k) := by
  unfold allB
  rw [addS_append _ _ _ (by rw [len_psB h _ ls ld]; have := adN_even h; omega), addS_ps h _ ls ld, addS_append _ _ _ (by rw [List.length_take]; rw [Nat.min_eq_left hb]; exact hk)]
theorem sumV_all (h : Ip) (b : List UInt8) (k : Nat) (ls : h.sb.length = 16) (ld : h.db.length = 16) (hk : k % 2 = 0) (hb : k ≤ b.length) : sumV h b k = if inetS (allB h b k) = 0 ∧ h.p = 17 then 65535 else inetS (allB h b k) := by
  unfold sumV inetS
  rw [addS_all h b k ls ld hk hb]
theorem addS_zero : ∀ (s : Nat) (l : List UInt8), addS s l = 0 → s = 0 ∧ ∀ x ∈ l, x = 0
  | s, [], h => ⟨h, fun x hx => by cases hx⟩
  | s, [x], h => by
    have h1 : rnd s (x.toNat * 256) = 0 := h
    obtain ⟨h2, h3⟩ := rnd_zero h1
    refine ⟨h2, fun y hy => ?_⟩
    rw [List.mem_singleton] at hy
    subst hy
    exact UInt8.toNat.inj (by show y.toNat = 0; omega)
  | s, x :: y :: t, h => by
    have h1 : addS (rnd s (x.toNat * 256 + y.toNat)) t = 0 := h
    obtain ⟨h2, h3⟩ := addS_zero _ t h1
    obtain ⟨h4, h5⟩ := rnd_zero h2
    refine ⟨h4, fun z hz => ?_⟩
    rcases List.mem_cons.1 hz with rfl | hz
    · exact UInt8.toNat.inj (by show z.toNat = 0; omega)
    · rcases List.mem_cons.1 hz with rfl | hz
      · exact UInt8.toNat.inj (by show z.toNat = 0; omega)
      · exact h3 z hz
theorem all_ne (h : Ip) (b : List UInt8) (k : Nat) (hp : h.p = 6 ∨ h.p = 17) : inetS (allB h b k) ≠ 65535 := fun e => by
  unfold inetS at e
  have := addS_le 0 (allB h b k) (by omega)
  obtain ⟨-, h0⟩ := addS_zero 0 (allB h b k) (by omega)
  have := h0 (b8 h.p) (by unfold allB psB; simp)
  rcases hp with hp | hp <;> rw [hp] at this <;> exact absurd this (by decide)
/-- unlike bytes' sums are unlike ones. -/
theorem sumV_ne {h h' : Ip} {b b' : List UInt8} {k : Nat} (ls : h.sb.length = 16) (ld : h.db.length = 16) (ls' : h'.sb.length = 16) (ld' : h'.db.length = 16) (hk : k % 2 = 0) (hb : k ≤ b.length) (hb' : k ≤ b'.length) (hp : h.p = 6 ∨ h.p = 17) (hpp : h'.p = h.p) (hne : inetS (allB h' b' k) ≠ inetS (allB h b k)) : sumV h' b' k ≠ sumV h b k := by
  rw [sumV_all h b k ls ld hk hb, sumV_all h' b' k ls' ld' hk hb', hpp]
  have h1 := all_ne h b k hp
  have h2 := all_ne h' b' k (by rw [hpp]; exact hp)
  by_cases h17 : h.p = 17
  · split <;> split <;> omega
  · rw [if_neg (fun e => h17 e.2), if_neg (fun e => h17 e.2)]; exact hne
theorem turn_left (a b : List UInt8) {q : Nat} (hq : q < 8 * a.length) : turnL (a ++ b) q = turnL a q ++ b := by
  unfold turnL
  rw [List.set_append_left _ _ (by omega), List.getD_eq_getElem?_getD, List.getD_eq_getElem?_getD, List.getElem?_append_left (by omega)]
theorem turn_right (a b : List UInt8) {q : Nat} (hq : 8 * a.length ≤ q) : turnL (a ++ b) q = a ++ turnL b (q - 8 * a.length) := by
  unfold turnL
  rw [List.set_append_right _ _ (by omega), List.getD_eq_getElem?_getD, List.getD_eq_getElem?_getD, List.getElem?_append_right (by omega), show (q - 8 * a.length) / 8 = q / 8 - a.length by omega, show (q - 8 * a.length) % 8 = q % 8 by omega]
theorem turn_eq {l : List UInt8} {q : Nat} (hq : q < 8 * l.length) : turnL l q ≠ l := fun e => inet_turn hq (by rw [e])
theorem allB_split (h : Ip) (a m d : List UInt8) (hm : m.length = 2) : allB h (a ++ (m ++ d)) a.length = psB h (a.length + (2 + d.length)) ++ (a ++ d) := by
  unfold allB
  rw [List.length_append, List.length_append, hm, List.take_left', List.drop_append, List.drop_of_length_le (l := a) (by omega), show a.length + 2 - a.length = m.length by omega, List.drop_left, List.nil_append]
  rfl
theorem nmB_split (a m d : List UInt8) (hm : m.length = 2) : nmB (a ++ (m ++ d)) a.length 2 = numS m := by
  unfold nmB
  rw [List.drop_left, ← hm, List.take_left]
theorem numS_two_inj {m m' : List UInt8} (h1 : m.length = 2) (h2 : m'.length = 2) (h : numS m = numS m') : m = m' := by
  match m, m', h1, h2 with
  | [x, y], [u, v], _, _ =>
    have e : x.toNat * 256 + y.toNat = u.toNat * 256 + v.toNat := by
      simp [numS] at h
      omega
    have a1 := x.toNat_lt
    have a2 := y.toNat_lt
    have a3 := u.toNat_lt
    have a4 := v.toNat_lt
    rw [UInt8.toNat.inj (show x.toNat = u.toNat by omega), UInt8.toNat.inj (show y.toNat = v.toNat by omega)]
/-- one bit that is turned in a segment's bytes: what its sum is told to be, or what it has to be, is another number. -/
theorem told_turn (h : Ip) (b : List UInt8) (k q : Nat) (ls : h.sb.length = 16) (ld : h.db.length = 16) (hk : k % 2 = 0) (hb : k + 2 ≤ b.length) (hp : h.p = 6 ∨ h.p = 17) (hq : q < 8 * b.length) :
    (nmB (turnL b q) k 2 = nmB b k 2 ∧ sumV h (turnL b q) k ≠ sumV h b k) ∨ (nmB (turnL b q) k 2 ≠ nmB b k 2 ∧ sumV h (turnL b q) k = sumV h b k) := by
  obtain ⟨a, m, d, hb2, ha, hm⟩ : ∃ a m d, b = a ++ (m ++ d) ∧ a.length = k ∧ m.length = 2 := ⟨b.take k, (b.drop k).take 2, (b.drop k).drop 2, by rw [List.take_append_drop, List.take_append_drop], by rw [List.length_take]; omega, by rw [List.length_take, List.length_drop]; omega⟩
  have hlt := length_turnL b q
  have key : ∀ a' d' : List UInt8, a'.length = a.length → d'.length = d.length → turnL b q = a' ++ (m ++ d') → inetS (psB h (a.length + (2 + d.length)) ++ (a' ++ d')) ≠ inetS (psB h (a.length + (2 + d.length)) ++ (a ++ d)) → (nmB (turnL b q) k 2 = nmB b k 2 ∧ sumV h (turnL b q) k ≠ sumV h b k) := fun a' d' ha' hd' he hne => by
    refine ⟨?_, sumV_ne ls ld ls ld hk (by omega) (by rw [hlt]; omega) hp rfl ?_⟩
    · rw [he, hb2, ← ha, nmB_split a m d hm, ← ha', nmB_split a' m d' hm]
    · rw [he, hb2, ← ha, allB_split h a m d hm, ← ha', allB_split h a' m d' hm, ha', hd']
      exact hne
  have hbl : b.length = a.length + (2 + d.length) := by rw [hb2, List.length_append, List.length_append, hm]
  by_cases h1 : q < 8 * a.length
  · left
    refine key (turnL a q) d (length_turnL _ _) rfl (by rw [hb2, turn_left _ _ h1]) ?_
    have e : psB h (a.length + (2 + d.length)) ++ (turnL a q ++ d) = turnL (psB h (a.length + (2 + d.length)) ++ (a ++ d)) (q + 8 * (psB h (a.length + (2 + d.length))).length) := by
      rw [turn_right _ _ (by omega), Nat.add_sub_cancel, turn_left _ _ h1]
    rw [e]
    exact inet_turn (by rw [List.length_append, List.length_append]; omega)
  · by_cases h2 : q < 8 * (a.length + 2)
    · right
      have e : turnL b q = a ++ (turnL m (q - 8 * a.length) ++ d) := by rw [hb2, turn_right _ _ (by omega), turn_left _ _ (by omega)]
      have hm2 : (turnL m (q - 8 * a.length)).length = 2 := by rw [length_turnL]; exact hm
      refine ⟨?_, ?_⟩
      · rw [e, hb2, ← ha, nmB_split a m d hm, nmB_split a _ d hm2]
        exact fun e => turn_eq (by omega) (numS_two_inj hm2 hm e)
      · rw [sumV_all h b k ls ld hk (by omega), sumV_all h (turnL b q) k ls ld hk (by rw [hlt]; omega), e, hb2, ← ha, allB_split h a m d hm, allB_split h a _ d hm2]
    · left
      refine key a (turnL d (q - 8 * (a.length + 2))) rfl (length_turnL _ _) (by rw [hb2, turn_right _ _ (by omega), turn_right _ _ (by omega), hm, show q - 8 * a.length - 8 * 2 = q - 8 * (a.length + 2) by omega]) ?_
      have e : psB h (a.length + (2 + d.length)) ++ (a ++ turnL d (q - 8 * (a.length + 2))) = turnL (psB h (a.length + (2 + d.length)) ++ (a ++ d)) (q - 8 * (a.length + 2) + 8 * a.length + 8 * (psB h (a.length + (2 + d.length))).length) := by
        rw [turn_right _ _ (by omega), Nat.add_sub_cancel, turn_right _ _ (by omega), Nat.add_sub_cancel]
      rw [e]
      exact inet_turn (by rw [List.length_append, List.length_append]; omega)
/-- one bit of an address of a packet. -/
theorem sum_moved {h h' : Ip} (b : List UInt8) (k q : Nat) (from' : Bool) (ls : h.sb.length = 16) (ld : h.db.length = 16) (hk : k % 2 = 0) (hb : k ≤ b.length) (hp : h.p = 6 ∨ h.p = 17) (hpp : h'.p = h.p) (hv : h'.v = h.v) (hq : q < 8 * adN h)
    (hs : h'.sb = if from' then turnL h.sb q else h.sb) (hd : h'.db = if from' then h.db else turnL h.db q) : sumV h' b k ≠ sumV h b k := by
  have ea : adN h' = adN h := by unfold adN; rw [hv]
  have ls' : h'.sb.length = 16 := by rw [hs]; split <;> simp [length_turnL, ls]
  have ld' : h'.db.length = 16 := by rw [hd]; split <;> simp [length_turnL, ld]
  refine sumV_ne ls ld ls' ld' hk hb hb hp hpp ?_
  have tk : ∀ l : List UInt8, l.length = 16 → (turnL l q).take (adN h) = turnL (l.take (adN h)) q := fun l hl => by
    have h1 := turn_left (l.take (adN h)) (l.drop (adN h)) (q := q) (by rw [len_takeA h hl]; exact hq)
    rw [List.take_append_drop] at h1
    rw [h1, List.take_left' (by rw [length_turnL, len_takeA h hl])]
  have hla : ∀ l : List UInt8, l.length = 16 → q < 8 * (l.take (adN h)).length := fun l hl => by rw [len_takeA h hl]; exact hq
  unfold allB psB
  rw [ea, hpp, hs, hd]
  cases from'
  · simp only [Bool.false_eq_true, if_false]
    rw [tk _ ld, List.append_assoc, List.append_assoc, List.append_assoc, List.append_assoc, ← turn_left _ _ (hla _ ld)]
    have e := turn_right (h.sb.take (adN h)) (h.db.take (adN h) ++ ([b8 (h.p / 256), b8 h.p, b8 ((b.length : Int) / 256), b8 (b.length : Int)] ++ (b.take k ++ b.drop (k + 2)))) (q := q + 8 * (h.sb.take (adN h)).length) (by omega)
    rw [Nat.add_sub_cancel] at e
    rw [← e]
    refine inet_turn ?_
    rw [List.length_append, List.length_append]
    have := hla _ ld
    omega
  · simp only [if_true]
    rw [tk _ ls, List.append_assoc, List.append_assoc, List.append_assoc, List.append_assoc, ← turn_left _ _ (hla _ ls)]
    refine inet_turn ?_
    rw [List.length_append]
    have := hla _ ls
    omega
end Go.Proofs.Ytcfckhdohcaffaa
