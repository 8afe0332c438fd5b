/-
  Plain mathematics of turned bits: one bit turned turns the sum of 16 bits; some within 32 in a row turn that by 32 bits.
-/
import Derived.Test.YtihakjcccbionaaGreatDoorCrcm
namespace Go.Proofs.YtihakjcccbionaaGreatDoor

/-- bit j of bytes. -/
def bitAt (l : List UInt8) (j : Nat) : Bool := (l.getD (j / 8) 0).toNat.testBit (j % 8)

theorem length_bitsL (l : List UInt8) : (bitsL l).length = 8 * l.length := by
  induction l with
  | nil => rfl
  | cons x t ih =>
    rw [bitsL, List.flatMap_cons, List.length_append, ← bitsL, ih]
    simp [bitsOf]; omega

theorem bitsOf_get (x : UInt8) {j : Nat} (h : j < 8) : (bitsOf x)[j]? = some (x.toNat.testBit j) := by
  match j, h with
  | 0, _ => rfl
  | 1, _ => rfl
  | 2, _ => rfl
  | 3, _ => rfl
  | 4, _ => rfl
  | 5, _ => rfl
  | 6, _ => rfl
  | 7, _ => rfl

theorem bitsL_get : ∀ (l : List UInt8) (j : Nat), j < 8 * l.length → (bitsL l)[j]? = some (bitAt l j)
  | [], j, h => by simp at h
  | x :: t, j, h => by
    rw [bitsL, List.flatMap_cons, ← bitsL]
    by_cases hj : j < 8
    · rw [List.getElem?_append_left (by simpa [bitsOf] using hj), bitsOf_get x hj]
      have e1 : j / 8 = 0 := by omega
      have e2 : j % 8 = j := by omega
      simp [bitAt, e1, e2]
    · have hl : (bitsOf x).length = 8 := rfl
      rw [List.getElem?_append_right (by rw [hl]; omega), hl, bitsL_get t (j - 8) (by simp at h; omega)]
      have e1 : j / 8 = (j - 8) / 8 + 1 := by omega
      have e2 : (j - 8) % 8 = j % 8 := by omega
      simp [bitAt, e1, e2]

/-- the number of bits, the lowest first. -/
def numB : List Bool → Nat
  | [] => 0
  | b :: t => (if b then 1 else 0) + 2 * numB t
theorem numB_lt : ∀ (X : List Bool), numB X < 2 ^ X.length
  | [] => by simp [numB]
  | b :: t => by
    have := numB_lt t
    rw [numB, List.length_cons, Nat.pow_succ]
    split <;> omega
theorem bitsN_num : ∀ (X : List Bool), bitsN (numB X) X.length = X
  | [] => rfl
  | b :: t => by
    rw [numB, List.length_cons, bitsN]
    have h1 : ((if b then 1 else 0) + 2 * numB t) / 2 = numB t := by split <;> omega
    have h2 : ((if b then 1 else 0) + 2 * numB t).testBit 0 = b := by
      rw [Nat.testBit_zero]
      cases b
      · simp
      · have : (1 + 2 * numB t) % 2 = 1 := by omega
        simp [this]
    rw [h1, h2, bitsN_num t]

theorem stepN_inj : ∀ (n : Nat) {a b : BitVec 32}, stepN n a = stepN n b → a = b
  | 0, _, _, h => h
  | n + 1, a, b, h => by
    refine stepN_inj n ?_
    have h0 : stepT (stepN n a ^^^ stepN n b) = 0 := by
      rw [stepT_xor]
      rw [stepN, stepN] at h
      rw [h, BitVec.xor_self]; rfl
    exact BitVec.xor_eq_zero_iff.1 (stepT_inj h0)

theorem crcB_inj {X Y : List Bool} (r : BitVec 32) (hl : X.length = Y.length) (h32 : X.length ≤ 32) (h : crcB r X = crcB r Y) : X = Y := by
  have hx := numB_lt X
  have hy := numB_lt Y
  have hp : 2 ^ X.length ≤ 2 ^ 32 := Nat.pow_le_pow_right (by omega) h32
  have ex := stepN_bits X.length (numB X) r hx (by omega)
  have ey := stepN_bits Y.length (numB Y) r hy (by rw [← hl] at hy; omega)
  rw [bitsN_num] at ex ey
  rw [← ex, ← ey, ← hl] at h
  have h1 := stepN_inj _ h
  have h2 : BitVec.ofNat 32 (numB X) = BitVec.ofNat 32 (numB Y) := by
    have := congrArg (fun z => r ^^^ z) h1
    simp only [← BitVec.xor_assoc, BitVec.xor_self, BitVec.zero_xor] at this
    exact this
  have h3 := congrArg BitVec.toNat h2
  rw [BitVec.toNat_ofNat, BitVec.toNat_ofNat, Nat.mod_eq_of_lt (by omega), Nat.mod_eq_of_lt (by rw [← hl] at hy; omega)] at h3
  rw [← bitsN_num X, ← bitsN_num Y, h3, hl]

/-- bytes that are alike but within 32 bits in a row have other sums. -/
theorem crc_window {l S : List UInt8} {p : Nat} (r : BitVec 32) (hl : S.length = l.length) (hsame : ∀ j, ¬ (p ≤ j ∧ j < p + 32) → bitAt S j = bitAt l j) (hdiff : ∃ j, j < 8 * l.length ∧ bitAt S j ≠ bitAt l j) :
    crcB r (bitsL S) ≠ crcB r (bitsL l) := by
  have d : ∀ (Z : List Bool), Z = Z.take p ++ ((Z.drop p).take 32 ++ Z.drop (p + 32)) := fun Z => by
    rw [show Z.drop (p + 32) = (Z.drop p).drop 32 from by rw [List.drop_drop], List.take_append_drop, List.take_append_drop]
  have hlen : (bitsL S).length = (bitsL l).length := by rw [length_bitsL, length_bitsL, hl]
  have hget : ∀ j, ¬ (p ≤ j ∧ j < p + 32) → (bitsL S)[j]? = (bitsL l)[j]? := fun j hj => by
    by_cases hlt : j < 8 * l.length
    · rw [bitsL_get S j (by omega), bitsL_get l j hlt, hsame j hj]
    · rw [List.getElem?_eq_none (by rw [length_bitsL]; omega), List.getElem?_eq_none (by rw [length_bitsL]; omega)]
  have h1 : (bitsL S).take p = (bitsL l).take p := by
    apply List.ext_getElem?
    intro j
    rw [List.getElem?_take, List.getElem?_take]
    by_cases hj : j < p
    · rw [if_pos hj, if_pos hj, hget j (by omega)]
    · rw [if_neg hj, if_neg hj]
  have h2 : (bitsL S).drop (p + 32) = (bitsL l).drop (p + 32) := by
    apply List.ext_getElem?
    intro j
    rw [List.getElem?_drop, List.getElem?_drop, hget _ (by omega)]
  rw [d (bitsL S), d (bitsL l), h1, h2, crcB_append, crcB_append, crcB_append, crcB_append]
  refine crcB_ne _ ?_
  intro he
  have hX := crcB_inj _ (by simp [hlen]) (by simp; omega) he
  obtain ⟨j, hj, hne⟩ := hdiff
  apply hne
  by_cases hw : p ≤ j ∧ j < p + 32
  · have e1 := congrArg (fun Z => Z[j - p]?) hX
    simp only [List.getElem?_take, List.getElem?_drop] at e1
    rw [if_pos (by omega), if_pos (by omega), show p + (j - p) = j from by omega, bitsL_get S j (by omega), bitsL_get l j hj] at e1
    exact Option.some.inj e1
  · exact hsame j hw

/-- the byte with one bit turned. -/
def turnU (a : UInt8) (b : Nat) : UInt8 := UInt8.ofNat (a.toNat ^^^ 2 ^ b)
theorem turn_lt {a b : Nat} (ha : a < 256) (hb : b < 8) : a ^^^ 2 ^ b < 256 := by
  have h : 2 ^ b < 2 ^ 8 := Nat.pow_lt_pow_right (by omega) hb
  exact Nat.xor_lt_two_pow (n := 8) ha h
theorem turnU_toNat (a : UInt8) {b : Nat} (hb : b < 8) : (turnU a b).toNat = a.toNat ^^^ 2 ^ b := by
  unfold turnU
  rw [UInt8.toNat_ofNat_of_lt' (by show _ < 256; exact turn_lt a.toNat_lt hb)]
/-- bytes with bit q turned. -/
def turnL (l : List UInt8) (q : Nat) : List UInt8 := l.set (q / 8) (turnU (l.getD (q / 8) 0) (q % 8))
theorem length_turnL (l : List UInt8) (q : Nat) : (turnL l q).length = l.length := by simp [turnL]

theorem bitAt_turn {l : List UInt8} {q : Nat} (hq : q < 8 * l.length) (j : Nat) : bitAt (turnL l q) j = (bitAt l j ^^ decide (j = q)) := by
  unfold bitAt turnL
  by_cases h8 : j / 8 = q / 8
  · rw [h8]
    have hlt : q / 8 < l.length := by omega
    simp only [List.getD_eq_getElem?_getD, List.getElem?_set_self hlt, Option.getD_some]
    rw [turnU_toNat _ (by omega), Nat.testBit_xor, Nat.testBit_two_pow]
    congr 1
    by_cases h : j = q
    · subst h; simp
    · have : ¬ (q % 8 = j % 8) := by omega
      simp [h, this]
  · simp only [List.getD_eq_getElem?_getD]
    rw [List.getElem?_set_ne (by omega)]
    have : ¬ (j = q) := by intro h; subst h; exact h8 rfl
    simp [this]

theorem plain_set_one : ∀ (k : Nat) (l : List UInt8) (h : k < l.length) (v : UInt8),
    plainS (l.set k v) + l[k].toNat * (if k % 2 = 0 then 256 else 1) = plainS l + v.toNat * (if k % 2 = 0 then 256 else 1)
  | 0, [x], _, v => by simp [plainS]; omega
  | 0, x :: y :: t, _, v => by simp [plainS]; omega
  | 1, [x], h, _ => by simp at h
  | 1, x :: y :: t, _, v => by simp [plainS]; omega
  | _, [], h, _ => by simp at h
  | k + 2, [x], h, _ => by simp at h
  | k + 2, x :: y :: t, h, v => by
    have := plain_set_one k t (by simp at h; omega) v
    simp only [List.set_cons_succ, List.getElem_cons_succ, plainS]
    rw [show (k + 2) % 2 = k % 2 from by omega]
    omega

theorem turn_cases : ∀ a, a < 256 → ∀ b, b < 8 → (a ^^^ 2 ^ b = a + 2 ^ b ∨ (a ^^^ 2 ^ b) + 2 ^ b = a) := by decide +kernel

theorem mod_apart (P P' d S S' : Nat) (hd : 0 < d) (hd2 : d < 65535) (h : P' = P + d ∨ P' + d = P) (a1 : S % 65535 = (0 + P) % 65535) (a2 : S' % 65535 = (0 + P') % 65535) : S' ≠ S := by
  intro e
  subst e
  omega

/-- one bit turned turns the sum of 16 bits. -/
theorem inet_turn {l : List UInt8} {q : Nat} (hq : q < 8 * l.length) : inetS (turnL l q) ≠ inetS l := by
  have hlt : q / 8 < l.length := by omega
  have hg : l.getD (q / 8) 0 = l[q / 8] := by simp [List.getD_eq_getElem?_getD, List.getElem?_eq_getElem hlt]
  have hs := plain_set_one (q / 8) l hlt (turnU (l.getD (q / 8) 0) (q % 8))
  have hset : turnL l q = l.set (q / 8) (turnU (l.getD (q / 8) 0) (q % 8)) := rfl
  rw [← hset, turnU_toNat _ (by omega), hg] at hs
  have ht := turn_cases l[q / 8].toNat l[q / 8].toNat_lt (q % 8) (by omega)
  have hp : 2 ^ (q % 8) ≤ 2 ^ 7 := Nat.pow_le_pow_right (by omega) (by omega)
  have hp0 : 0 < 2 ^ (q % 8) := Nat.pow_pos (by omega)
  have hne : addS 0 (turnL l q) ≠ addS 0 l := by
    by_cases he : q / 8 % 2 = 0
    · rw [if_pos he] at hs
      exact mod_apart _ _ (2 ^ (q % 8) * 256) _ _ (by omega) (by omega) (by omega) (addS_mod 0 l) (addS_mod 0 _)
    · rw [if_neg he] at hs
      exact mod_apart _ _ (2 ^ (q % 8)) _ _ (by omega) (by omega) (by omega) (addS_mod 0 l) (addS_mod 0 _)
  have b1 := addS_le 0 l (Nat.zero_le _)
  have b2 := addS_le 0 (turnL l q) (Nat.zero_le _)
  unfold inetS
  omega

theorem not_ne {a b : BitVec 32} (h : a ≠ b) : ~~~ a ≠ ~~~ b := fun e => h (by
  have := congrArg (fun z => ~~~ z) e
  simpa using this)
theorem crc_turn {l : List UInt8} {q : Nat} (hq : q < 8 * l.length) : moreB 0 (turnL l q) ≠ moreB 0 l := by
  unfold moreB
  refine not_ne (crc_window (p := q) _ (length_turnL l q) (fun j hj => ?_) ⟨q, hq, ?_⟩)
  · rw [bitAt_turn hq]
    have : ¬ j = q := by intro e; subst e; exact hj ⟨Nat.le_refl _, by omega⟩
    simp [this]
  · rw [bitAt_turn hq]
    cases bitAt l q <;> simp
end Go.Proofs.YtihakjcccbionaaGreatDoor
