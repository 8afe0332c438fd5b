/-
  Plain mathematics of the two sums: 'addS' is the sum of 16 bits that goes round, 'crcB' is the register of the sum by 32 bits, bit by bit. Nothing here speaks of a program.
-/
import Init
namespace Go.Proofs.YtihakjcccbionaaGreatDoor

/-- two numbers added, going round. -/
def rnd (a b : Nat) : Nat := if a + b > 65535 then a + b - 65535 else a + b

/-- the words of bytes, added going round. -/
def addS : Nat → List UInt8 → Nat
  | s, [] => s
  | s, [x] => rnd s (x.toNat * 256)
  | s, x :: y :: t => addS (rnd s (x.toNat * 256 + y.toNat)) t

theorem rnd_le {a b : Nat} (ha : a ≤ 65535) (hb : b ≤ 65535) : rnd a b ≤ 65535 := by unfold rnd; split <;> omega
theorem rnd_mod {a b : Nat} : rnd a b % 65535 = (a + b) % 65535 := by unfold rnd; split <;> omega
theorem rnd_zero {a b : Nat} (h : rnd a b = 0) : a = 0 ∧ b = 0 := by unfold rnd at h; split at h <;> omega
theorem word_le (x y : UInt8) : x.toNat * 256 + y.toNat ≤ 65535 := by have := x.toNat_lt; have := y.toNat_lt; omega

theorem addS_le : ∀ (s : Nat) (l : List UInt8), s ≤ 65535 → addS s l ≤ 65535
  | _, [], h => h
  | s, [x], h => rnd_le h (by have := x.toNat_lt; omega)
  | s, x :: y :: t, h => by rw [addS]; exact addS_le _ t (rnd_le h (word_le x y))

/-- the words' plain sum. -/
def plainS : List UInt8 → Nat
  | [] => 0
  | [x] => x.toNat * 256
  | x :: y :: t => x.toNat * 256 + y.toNat + plainS t

theorem addS_mod : ∀ (s : Nat) (l : List UInt8), addS s l % 65535 = (s + plainS l) % 65535
  | s, [] => by simp [addS, plainS]
  | s, [x] => by rw [addS, plainS, rnd_mod]
  | s, x :: y :: t => by rw [addS, plainS, addS_mod _ t]; have := @rnd_mod s (x.toNat * 256 + y.toNat); omega

theorem addS_append : ∀ (s : Nat) (a b : List UInt8), a.length % 2 = 0 → addS s (a ++ b) = addS (addS s a) b
  | s, [], b, _ => rfl
  | s, [x], b, h => by simp at h
  | s, x :: y :: t, b, h => by
    rw [List.cons_append, List.cons_append, addS, addS, addS_append _ t b (by simp at h; omega)]

theorem plainS_append : ∀ (a b : List UInt8), a.length % 2 = 0 → plainS (a ++ b) = plainS a + plainS b
  | [], b, _ => by simp [plainS]
  | [x], b, h => by simp at h
  | x :: y :: t, b, h => by
    rw [List.cons_append, List.cons_append, plainS, plainS, plainS_append t b (by simp at h; omega)]; omega

/-- the internet's sum. -/
def inetS (l : List UInt8) : Nat := 65535 - addS 0 l
theorem inetS_le (l : List UInt8) : inetS l ≤ 65535 := by unfold inetS; omega
/-- the sum's update. -/
def updS (sum was is : Nat) : Nat := 65535 - rnd (rnd (65535 - sum) (65535 - was)) is
theorem updS_le (a b c : Nat) : updS a b c ≤ 65535 := by unfold updS; omega

/-- an even number of bytes, their sum behind them: sum 0. -/
theorem own_zero (l : List UInt8) (h : l.length % 2 = 0) (hi lo : UInt8) (e : hi.toNat * 256 + lo.toNat = inetS l) : inetS (l ++ [hi, lo]) = 0 := by
  have := addS_le 0 l (by omega)
  unfold inetS at e ⊢
  rw [addS_append 0 l _ h, addS, addS, e]
  generalize addS 0 l = s at *
  unfold rnd; split <;> omega

/-- two numbers that leave the same of 65535. -/
theorem same_or {a b : Nat} (ha : a ≤ 65535) (hb : b ≤ 65535) (h : a % 65535 = b % 65535) : a = b ∨ (a = 0 ∧ b = 65535) ∨ (a = 65535 ∧ b = 0) := by omega

theorem plain_set : ∀ (k : Nat) (l : List UInt8) (h : k + 1 < l.length) (_ : k % 2 = 0) (p q : UInt8),
    plainS ((l.set k p).set (k + 1) q) + (l[k].toNat * 256 + l[k + 1].toNat) = plainS l + (p.toNat * 256 + q.toNat)
  | 0, x :: y :: t, _, _, p, q => by simp [plainS]; omega
  | 0, [x], h, _, _, _ => by simp at h
  | _, [], h, _, _, _ => by simp at h
  | 1, _, _, he, _, _ => by omega
  | k + 2, [x], h, _, _, _ => by simp at h
  | k + 2, x :: y :: t, h, he, p, q => by
    have := plain_set k t (by simp at h; omega) (by omega) p q
    simp only [List.set_cons_succ, List.getElem_cons_succ, plainS]
    omega

theorem upd_arith (P P' W W' S S' r r' : Nat) (hs : P' + W = P + W') (a1 : S % 65535 = (0 + P) % 65535) (a2 : S' % 65535 = (0 + P') % 65535) (b1 : S ≤ 65535) (b2 : S' ≤ 65535) (w1 : W ≤ 65535)
    (r1 : r % 65535 = (65535 - (65535 - S) + (65535 - W)) % 65535) (r2 : r' % 65535 = (r + W') % 65535) (l2 : r' ≤ 65535) :
    (65535 - r') % 65535 = (65535 - S') % 65535 := by
  omega

/-- if one word is another one, the update is the new sum, or one of the two is 0 and the other one 65535. -/
theorem upd_same {k : Nat} (l : List UInt8) (h : k + 1 < l.length) (he : k % 2 = 0) (p q : UInt8) :
    updS (inetS l) (l[k].toNat * 256 + l[k + 1].toNat) (p.toNat * 256 + q.toNat) = inetS ((l.set k p).set (k + 1) q) ∨
    (updS (inetS l) (l[k].toNat * 256 + l[k + 1].toNat) (p.toNat * 256 + q.toNat) = 0 ∧ inetS ((l.set k p).set (k + 1) q) = 65535) ∨
    (updS (inetS l) (l[k].toNat * 256 + l[k + 1].toNat) (p.toNat * 256 + q.toNat) = 65535 ∧ inetS ((l.set k p).set (k + 1) q) = 0) := by
  refine same_or (updS_le _ _ _) (inetS_le _) ?_
  exact upd_arith (plainS l) (plainS ((l.set k p).set (k + 1) q)) (l[k].toNat * 256 + l[k + 1].toNat) (p.toNat * 256 + q.toNat) (addS 0 l) (addS 0 ((l.set k p).set (k + 1) q)) _ _
    (plain_set k l h he p q) (addS_mod 0 l) (addS_mod 0 _) (addS_le 0 l (Nat.zero_le _)) (addS_le 0 _ (Nat.zero_le _)) (word_le _ _) rnd_mod rnd_mod
    (rnd_le (rnd_le (Nat.sub_le _ _) (Nat.sub_le _ _)) (word_le _ _))

/-! ### the sum by 32 bits -/
abbrev poly : BitVec 32 := 0xedb88320#32
/-- the register, shifted by one; the polynomial, if its lowest bit was 1. -/
def stepT (r : BitVec 32) : BitVec 32 := (r >>> 1) ^^^ (if r.getLsbD 0 then poly else 0)
def bitV (b : Bool) : BitVec 32 := if b then 1 else 0
/-- the register behind bits. -/
def crcB (r : BitVec 32) (l : List Bool) : BitVec 32 := l.foldl (fun r b => stepT (r ^^^ bitV b)) r

theorem stepT_xor (a b : BitVec 32) : stepT (a ^^^ b) = stepT a ^^^ stepT b := by
  unfold stepT
  rw [BitVec.ushiftRight_xor_distrib, BitVec.getLsbD_xor]
  apply BitVec.eq_of_getLsbD_eq
  intro i hi
  have h0 : poly ^^^ poly = 0 := BitVec.xor_self
  cases a.getLsbD 0 <;> cases b.getLsbD 0 <;> simp [Bool.xor_comm, Bool.xor_left_comm]

theorem stepT_zero : stepT 0 = 0 := by simp [stepT]

theorem stepT_inj {a : BitVec 32} (h : stepT a = 0) : a = 0 := by
  unfold stepT at h
  by_cases h0 : a.getLsbD 0 = true
  · exfalso
    rw [if_pos h0] at h
    have := congrArg (fun x => x.getLsbD 31) h
    simp at this
    revert this
    decide
  · rw [if_neg h0] at h
    simp at h0
    apply BitVec.eq_of_getLsbD_eq
    intro i hi
    by_cases hz : i = 0
    · subst hz; simpa using h0
    · have := congrArg (fun x => x.getLsbD (i - 1)) h
      simp at this
      rw [show 1 + (i - 1) = i from by omega] at this
      simp [this]

theorem crcB_append (r : BitVec 32) (a b : List Bool) : crcB r (a ++ b) = crcB (crcB r a) b := by simp [crcB]
theorem crcB_nil (r : BitVec 32) : crcB r [] = r := rfl
theorem crcB_cons (r : BitVec 32) (b : Bool) (l : List Bool) : crcB r (b :: l) = crcB (stepT (r ^^^ bitV b)) l := rfl

/-- two registers that differ, behind the same bits, differ. -/
theorem crcB_ne (l : List Bool) : ∀ {r s : BitVec 32}, r ≠ s → crcB r l ≠ crcB s l := by
  induction l with
  | nil => exact fun h => h
  | cons b l ih =>
    intro r s h
    rw [crcB_cons, crcB_cons]
    refine ih ?_
    intro he
    apply h
    have : stepT (r ^^^ s) = 0 := by
      have e2 : r ^^^ s = (r ^^^ bitV b) ^^^ (s ^^^ bitV b) := by
        apply BitVec.eq_of_getLsbD_eq; intro i _; simp only [BitVec.getLsbD_xor]; cases r.getLsbD i <;> cases s.getLsbD i <;> cases (bitV b).getLsbD i <;> rfl
      rw [e2, stepT_xor, he, BitVec.xor_self]; rfl
    have := stepT_inj this
    exact BitVec.xor_eq_zero_iff.1 this
end Go.Proofs.YtihakjcccbionaaGreatDoor
