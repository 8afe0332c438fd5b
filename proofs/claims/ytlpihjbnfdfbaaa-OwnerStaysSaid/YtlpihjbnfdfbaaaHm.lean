/-
  The mathematics of hash: numbers of 64 bits as BitVec 64; how the walk writes their sums, shifts and bits; Mix, and that no two numbers have the same one; Sip.
-/
import Derived.Test.YtlpihjbnfdfbaaaBase
import Derived.Laws.Bits64
import Derived.Laws.BitsAllLaws
namespace Go.Proofs.Ytlpihjbnfdfbaaa
open Go.RowKit
set_option linter.unusedVariables false

/-- a number of 64 bits as Go has it. -/
def uV (x : BitVec 64) : Value := .int .u64 (x.toNat : Int)
theorem ret_u {a : Int} {x : BitVec 64} (h : a = (x.toNat : Int)) : Ending.returned (.int .u64 a) = .returned (uV x) := by rw [h]; rfl

theorem c_add (a b : BitVec 64) : IntKind.u64.wrap ((a.toNat : Int) + (b.toNat : Int)) = ((a + b).toNat : Int) := by
  rw [IntKind.wrap_u64, BitVec.toNat_add]; omega
theorem c_mul (a b : BitVec 64) : IntKind.u64.wrap ((a.toNat : Int) * (b.toNat : Int)) = ((a * b).toNat : Int) := by
  rw [IntKind.wrap_u64, BitVec.toNat_mul]; simp
theorem c_xor (a b : BitVec 64) : bits .xor .u64 (a.toNat : Int) (b.toNat : Int) = ((a ^^^ b).toNat : Int) := by
  rw [u64_xor_nat _ _ a.isLt b.isLt, BitVec.toNat_xor]
theorem c_or (a b : BitVec 64) : bits .or .u64 (a.toNat : Int) (b.toNat : Int) = ((a ||| b).toNat : Int) := by
  rw [u64_or_nat _ _ a.isLt b.isLt, BitVec.toNat_or]
theorem c_shr (a : BitVec 64) (k : Nat) (d : Int) (hd : d = ((2 ^ k : Nat) : Int)) : (a.toNat : Int) / d = ((a >>> k).toNat : Int) := by
  rw [BitVec.toNat_ushiftRight, Nat.shiftRight_eq_div_pow, hd]; simp
theorem c_shl (a : BitVec 64) (k : Nat) (d : Int) (hd : d = ((2 ^ k : Nat) : Int)) : IntKind.u64.wrap ((a.toNat : Int) * d) = ((a <<< k).toNat : Int) := by
  rw [BitVec.toNat_shiftLeft, Nat.shiftLeft_eq, IntKind.wrap_u64, hd]; simp

/-! Mix -/
def mixI (n : Int) : Int :=
  bits .xor .u64
    (IntKind.u64.wrap (bits .xor .u64 (IntKind.u64.wrap (bits .xor .u64 (IntKind.u64.wrap (n + 11400714819323198485)) (IntKind.u64.wrap (n + 11400714819323198485) / 1073741824) * 13787848793156543929))
      (IntKind.u64.wrap (bits .xor .u64 (IntKind.u64.wrap (n + 11400714819323198485)) (IntKind.u64.wrap (n + 11400714819323198485) / 1073741824) * 13787848793156543929) / 134217728) * 10723151780598845931))
    (IntKind.u64.wrap (bits .xor .u64 (IntKind.u64.wrap (bits .xor .u64 (IntKind.u64.wrap (n + 11400714819323198485)) (IntKind.u64.wrap (n + 11400714819323198485) / 1073741824) * 13787848793156543929))
      (IntKind.u64.wrap (bits .xor .u64 (IntKind.u64.wrap (n + 11400714819323198485)) (IntKind.u64.wrap (n + 11400714819323198485) / 1073741824) * 13787848793156543929) / 134217728) * 10723151780598845931) / 2147483648)
/-- a number's bits turned by its own, shifted. -/
def foldB (k : Nat) (x : BitVec 64) : BitVec 64 := x ^^^ (x >>> k)
def mixB (n : BitVec 64) : BitVec 64 := foldB 31 (foldB 27 (foldB 30 (n + 11400714819323198485#64) * 13787848793156543929#64) * 10723151780598845931#64)
theorem add_lit (n : BitVec 64) : IntKind.u64.wrap ((n.toNat : Int) + 11400714819323198485) = ((n + 11400714819323198485#64).toNat : Int) := c_add n 11400714819323198485#64
theorem mul_lit1 (n : BitVec 64) : IntKind.u64.wrap ((n.toNat : Int) * 13787848793156543929) = ((n * 13787848793156543929#64).toNat : Int) := c_mul n 13787848793156543929#64
theorem mul_lit2 (n : BitVec 64) : IntKind.u64.wrap ((n.toNat : Int) * 10723151780598845931) = ((n * 10723151780598845931#64).toNat : Int) := c_mul n 10723151780598845931#64
theorem mixI_eq (n : BitVec 64) : mixI (n.toNat : Int) = ((mixB n).toNat : Int) := by
  unfold mixI
  rw [add_lit, c_shr _ 30 1073741824 (by decide), c_xor, mul_lit1, c_shr _ 27 134217728 (by decide), c_xor, mul_lit2, c_shr _ 31 2147483648 (by decide), c_xor]
  rfl

theorem fold_inj {k : Nat} (hk : 0 < k) {x y : BitVec 64} (h : foldB k x = foldB k y) : x = y := by
  unfold foldB at h
  have e : (x ^^^ y) = (x ^^^ y) >>> k := by
    have h2 : (x ^^^ x >>> k) ^^^ (y ^^^ x >>> k) = (y ^^^ y >>> k) ^^^ (y ^^^ x >>> k) := by rw [h]
    have e1 : (x ^^^ x >>> k) ^^^ (y ^^^ x >>> k) = x ^^^ y := by
      apply BitVec.eq_of_getLsbD_eq; intro i hi; simp only [BitVec.getLsbD_xor]
      cases x.getLsbD i <;> cases y.getLsbD i <;> cases (x >>> k).getLsbD i <;> rfl
    have e2 : (y ^^^ y >>> k) ^^^ (y ^^^ x >>> k) = (x ^^^ y) >>> k := by
      rw [BitVec.ushiftRight_xor_distrib]
      apply BitVec.eq_of_getLsbD_eq; intro i hi; simp only [BitVec.getLsbD_xor]
      cases (x >>> k).getLsbD i <;> cases y.getLsbD i <;> cases (y >>> k).getLsbD i <;> rfl
    rw [e1, e2] at h2; exact h2
  obtain ⟨d, hd⟩ : ∃ d, d = x ^^^ y := ⟨_, rfl⟩
  rw [← hd] at e
  have e3 : d.toNat = d.toNat / 2 ^ k := by
    have := congrArg BitVec.toNat e
    rwa [BitVec.toNat_ushiftRight, Nat.shiftRight_eq_div_pow] at this
  have e4 : d.toNat = 0 := by
    have h2 : 2 ≤ 2 ^ k := by
      calc 2 = 2 ^ 1 := rfl
        _ ≤ 2 ^ k := Nat.pow_le_pow_right (by omega) hk
    rcases Nat.eq_zero_or_pos d.toNat with h0 | h0
    · exact h0
    · have := Nat.div_lt_self h0 (show 1 < 2 ^ k by omega)
      omega
  have e5 : d = 0#64 := BitVec.eq_of_toNat_eq (by rw [e4]; rfl)
  rw [e5] at hd
  apply BitVec.eq_of_getLsbD_eq
  intro i hi
  have := congrArg (fun v => v.getLsbD i) hd
  simp only [BitVec.getLsbD_xor, BitVec.getLsbD_zero] at this
  revert this
  cases x.getLsbD i <;> cases y.getLsbD i <;> simp
theorem mul_inj1 {x y : BitVec 64} (h : x * 13787848793156543929#64 = y * 13787848793156543929#64) : x = y := by
  have h2 := congrArg (fun v => v * 10871156337175269513#64) h
  simp only [BitVec.mul_assoc] at h2
  have e : 13787848793156543929#64 * 10871156337175269513#64 = 1#64 := by decide
  rw [e, BitVec.mul_one, BitVec.mul_one] at h2
  exact h2
theorem mul_inj2 {x y : BitVec 64} (h : x * 10723151780598845931#64 = y * 10723151780598845931#64) : x = y := by
  have h2 := congrArg (fun v => v * 3573116690164977347#64) h
  simp only [BitVec.mul_assoc] at h2
  have e : 10723151780598845931#64 * 3573116690164977347#64 = 1#64 := by decide
  rw [e, BitVec.mul_one, BitVec.mul_one] at h2
  exact h2
theorem add_inj {x y c : BitVec 64} (h : x + c = y + c) : x = y := by
  have h2 := congrArg (fun v => v - c) h
  simp only [BitVec.add_sub_cancel] at h2
  exact h2
theorem mix_inj {x y : BitVec 64} (h : mixB x = mixB y) : x = y :=
  add_inj (fold_inj (by omega) (mul_inj1 (fold_inj (by omega) (mul_inj2 (fold_inj (by omega) h)))))
theorem xor_inj {x y c : BitVec 64} (h : c ^^^ x = c ^^^ y) : x = y := by
  apply BitVec.eq_of_getLsbD_eq
  intro i hi
  have := congrArg (fun v => v.getLsbD i) h
  simp only [BitVec.getLsbD_xor] at this
  revert this
  cases x.getLsbD i <;> cases y.getLsbD i <;> cases c.getLsbD i <;> simp
def pairB (s a b : BitVec 64) : BitVec 64 := mixB (mixB (mixB s ^^^ a) ^^^ b)
theorem pair_inj {s a x y : BitVec 64} (h : pairB s a x = pairB s a y) : x = y := xor_inj (mix_inj h)

/-! Sip -/
def rotB (k : Nat) (x : BitVec 64) : BitVec 64 := (x <<< k) ||| (x >>> (64 - k))
structure Sip4 where
  a : BitVec 64
  b : BitVec 64
  c : BitVec 64
  d : BitVec 64
def Sip4.vals (s : Sip4) : Array Value := #[uV s.a, uV s.b, uV s.c, uV s.d]
def step01 (k : Nat) (s : Sip4) : Sip4 := ⟨s.a + s.b, rotB k s.b ^^^ (s.a + s.b), s.c, s.d⟩
def step23 (k : Nat) (s : Sip4) : Sip4 := ⟨s.a, s.b, s.c + s.d, rotB k s.d ^^^ (s.c + s.d)⟩
def step03 (k : Nat) (s : Sip4) : Sip4 := ⟨s.a + s.d, s.b, s.c, rotB k s.d ^^^ (s.a + s.d)⟩
def step21 (k : Nat) (s : Sip4) : Sip4 := ⟨s.a, rotB k s.b ^^^ (s.c + s.b), s.c + s.b, s.d⟩
def turn0 (s : Sip4) : Sip4 := ⟨rotB 32 s.a, s.b, s.c, s.d⟩
def turn2 (s : Sip4) : Sip4 := ⟨s.a, s.b, rotB 32 s.c, s.d⟩
def roundS (s : Sip4) : Sip4 := turn2 (step21 17 (step03 21 (step23 16 (turn0 (step01 13 s)))))
def roundsS : Nat → Sip4 → Sip4
  | 0, s => s
  | n + 1, s => roundsS n (roundS s)
theorem rounds_last : ∀ (n : Nat) (s : Sip4), roundsS (n + 1) s = roundS (roundsS n s)
  | 0, _ => rfl
  | n + 1, s => rounds_last n (roundS s)
def inS (s : Sip4) (m : BitVec 64) : Sip4 :=
  let t := roundS (roundS ⟨s.a, s.b, s.c, s.d ^^^ m⟩)
  ⟨t.a ^^^ m, t.b, t.c, t.d⟩
/-- some bytes as a number, the first one the lowest, from the k-th place on. -/
def wordF : Nat → List UInt8 → BitVec 64
  | _, [] => 0#64
  | k, x :: l => (BitVec.ofNat 64 x.toNat <<< (8 * k)) ||| wordF (k + 1) l
theorem wordF_snoc (x : UInt8) : ∀ (l : List UInt8) (k : Nat), wordF k (l ++ [x]) = wordF k l ||| (BitVec.ofNat 64 x.toNat <<< (8 * (k + l.length)))
  | [], k => by simp [wordF]
  | y :: l, k => by
    rw [List.cons_append, wordF, wordF, wordF_snoc x l (k + 1), BitVec.or_assoc, List.length_cons]
    rw [show k + 1 + l.length = k + (l.length + 1) by omega]
def wordB (l : List UInt8) : BitVec 64 := wordF 0 l
theorem wordB_take {l : List UInt8} {k : Nat} (h : k < l.length) : wordB (l.take (k + 1)) = wordB (l.take k) ||| (BitVec.ofNat 64 l[k].toNat <<< (8 * k)) := by
  unfold wordB
  rw [List.take_succ_eq_append_getElem h, wordF_snoc, List.length_take, Nat.zero_add, Nat.min_eq_left (by omega)]
/-- what is left when all whole words went in. -/
def bodyS (s : Sip4) (l : List UInt8) : Sip4 × List UInt8 :=
  if 8 ≤ l.length then bodyS (inS s (wordB (l.take 8))) (l.drop 8) else (s, l)
termination_by l.length
decreasing_by simp; omega
theorem bodyS_more {s : Sip4} {l : List UInt8} (h : 8 ≤ l.length) : bodyS s l = bodyS (inS s (wordB (l.take 8))) (l.drop 8) := by rw [bodyS, if_pos h]
theorem bodyS_end {s : Sip4} {l : List UInt8} (h : l.length < 8) : bodyS s l = (s, l) := by rw [bodyS, if_neg (by omega)]
def sipEnd (s : Sip4) (l : List UInt8) (n : Nat) : BitVec 64 :=
  let t := inS s (wordB l ||| (BitVec.ofNat 64 n <<< 56))
  let u := roundsS 4 ⟨t.a, t.b, t.c ^^^ 255#64, t.d⟩
  u.a ^^^ u.b ^^^ u.c ^^^ u.d
def startS (k0 k1 : BitVec 64) : Sip4 := ⟨k0 ^^^ 8317987319222330741#64, k1 ^^^ 7237128888997146477#64, k0 ^^^ 7816392313619706465#64, k1 ^^^ 8387220255154660723#64⟩
def sipB (k0 k1 : BitVec 64) (l : List UInt8) : BitVec 64 := sipEnd (bodyS (startS k0 k1) l).1 (bodyS (startS k0 k1) l).2 l.length
theorem ofNat_mod_shift (n : Nat) : BitVec.ofNat 64 (n % 256) <<< 56 = BitVec.ofNat 64 n <<< 56 := by
  apply BitVec.eq_of_toNat_eq
  simp only [BitVec.toNat_shiftLeft, BitVec.toNat_ofNat, Nat.shiftLeft_eq]
  omega
end Go.Proofs.Ytlpihjbnfdfbaaa
