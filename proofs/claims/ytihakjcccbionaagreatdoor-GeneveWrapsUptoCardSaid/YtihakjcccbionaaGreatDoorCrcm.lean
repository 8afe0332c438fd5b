/-
  Plain mathematics of the sum by 32 bits over bytes: eight steps behind a byte that went in at once are eight steps of its bits.
-/
import Derived.Test.YtihakjcccbionaaGreatDoorMath
namespace Go.Proofs.YtihakjcccbionaaGreatDoor

/-- a byte's bits, the lowest first. -/
def bitsOf (x : UInt8) : List Bool := [x.toNat.testBit 0, x.toNat.testBit 1, x.toNat.testBit 2, x.toNat.testBit 3, x.toNat.testBit 4, x.toNat.testBit 5, x.toNat.testBit 6, x.toNat.testBit 7]
def bitsL (l : List UInt8) : List Bool := l.flatMap bitsOf
/-- the sum of more bytes. -/
def moreB (S : BitVec 32) (l : List UInt8) : BitVec 32 := ~~~ crcB (~~~ S) (bitsL l)
def stepN : Nat → BitVec 32 → BitVec 32
  | 0, r => r
  | n + 1, r => stepT (stepN n r)

def byteB (x : UInt8) : BitVec 32 := BitVec.ofNat 32 x.toNat
theorem byteB_toNat (x : UInt8) : (byteB x).toNat = x.toNat := by
  have := x.toNat_lt
  unfold byteB
  rw [BitVec.toNat_ofNat, Nat.mod_eq_of_lt (by omega)]

theorem stepT_even {r : BitVec 32} (h : r.getLsbD 0 = false) : stepT r = r >>> 1 := by unfold stepT; rw [h]; simp
theorem stepN_succ' : ∀ (n : Nat) (r : BitVec 32), stepN (n + 1) r = stepN n (stepT r)
  | 0, _ => rfl
  | n + 1, r => by rw [stepN, stepN_succ' n r, stepN]
/-- bits that went in at once. -/
def bitsN (m : Nat) : Nat → List Bool
  | 0 => []
  | k + 1 => m.testBit 0 :: bitsN (m / 2) k

theorem low_split (m : Nat) (R : BitVec 32) : R ^^^ BitVec.ofNat 32 m = (R ^^^ bitV (m.testBit 0)) ^^^ (BitVec.ofNat 32 (2 * (m / 2))) := by
  apply BitVec.eq_of_getLsbD_eq
  intro i hi
  simp only [BitVec.getLsbD_xor, BitVec.getLsbD_ofNat, hi, decide_true, Bool.true_and]
  rw [Bool.xor_assoc]
  congr 1
  rcases i with _ | i
  · have h2 : (2 * (m / 2)).testBit 0 = false := by simp
    rw [h2]
    unfold bitV
    cases h : m.testBit 0 <;> simp
  · have h2 : (2 * (m / 2)).testBit (i + 1) = m.testBit (i + 1) := by
      rw [Nat.testBit_succ, Nat.testBit_succ, Nat.mul_div_cancel_left _ (by omega)]
    rw [h2]
    unfold bitV
    have h1 : Nat.testBit 1 (i + 1) = false := by rw [Nat.testBit_succ]; simp
    cases m.testBit 0 <;> simp [BitVec.getLsbD, h1]

theorem half_shift (m : Nat) (hm : m < 4294967296) : stepT (BitVec.ofNat 32 (2 * (m / 2))) = BitVec.ofNat 32 (m / 2) := by
  rw [stepT_even (by rw [BitVec.getLsbD_ofNat]; simp)]
  apply BitVec.eq_of_getLsbD_eq
  intro i hi
  simp only [BitVec.getLsbD_ushiftRight, BitVec.getLsbD_ofNat, hi, decide_true, Bool.true_and]
  rw [Nat.add_comm 1 i, Nat.testBit_succ, Nat.mul_div_cancel_left _ (by omega)]
  by_cases h : i + 1 < 32
  · simp [h]
  · have : i = 31 := by omega
    subst this
    have : (m / 2).testBit 31 = false := Nat.testBit_lt_two_pow (by omega)
    simp [this]

theorem stepN_bits : ∀ (k m : Nat) (R : BitVec 32), m < 2 ^ k → m < 4294967296 → stepN k (R ^^^ BitVec.ofNat 32 m) = crcB R (bitsN m k)
  | 0, m, R, h, _ => by
    have : m = 0 := by omega
    subst this
    simp [stepN, bitsN, crcB]
  | k + 1, m, R, h, h32 => by
    rw [stepN_succ', low_split m, stepT_xor, half_shift m h32, stepN_bits k (m / 2) _ (by omega) (by omega)]
    rfl

theorem bitsN_eight (x : UInt8) : bitsN x.toNat 8 = bitsOf x := by
  simp only [bitsN, bitsOf]
  simp only [← Nat.testBit_succ]

/-- a byte that went in at once. -/
theorem byte_step (R : BitVec 32) (x : UInt8) : stepN 8 (R ^^^ byteB x) = crcB R (bitsOf x) := by
  have := x.toNat_lt
  rw [← bitsN_eight]
  exact stepN_bits 8 x.toNat R (by omega) (by omega)

theorem crcB_drop {l : List UInt8} {k : Nat} (h : k < l.length) (R : BitVec 32) : crcB R (bitsL (l.drop k)) = crcB (crcB R (bitsOf l[k])) (bitsL (l.drop (k + 1))) := by
  rw [List.drop_eq_getElem_cons h, bitsL, List.flatMap_cons, crcB_append]; rfl
theorem crcB_end {l : List UInt8} {k : Nat} (h : l.length ≤ k) (R : BitVec 32) : crcB R (bitsL (l.drop k)) = R := by
  rw [List.drop_of_length_le h]; rfl
end Go.Proofs.YtihakjcccbionaaGreatDoor
