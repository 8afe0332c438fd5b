/-
  Plain mathematics of weights: where a float stands in the order, as what it counts, its part of another one. Nothing here speaks of a program.
-/
import Derived.Test.YtmbddengmheeeaaFl
import Derived.Laws.FloatArith
import GoSem.Op.Unary
namespace Go.Proofs.Ytmbddengmheeeaa

def fOne : Nat := 4607182418800017408
def fMost : Nat := 9218868437227405311
theorem fI_val : fI = 9218868437227405312 := by decide
theorem fOne_val : fOne = 1023 * 2 ^ 52 := by decide

def nanB (b : Nat) : Bool := decide (fI < fR b)
/-- a float's place in the one order of all floats. -/
def posF (b : Nat) : Int := if fI < fR b then 4 * (fI : Int) else if fS b then -(2 * (fR b : Int) + 1) else 2 * (fR b : Int)
def lessB (a b : Nat) : Bool := decide (posF a < posF b)
def sameB (a b : Nat) : Bool := decide (posF a = posF b)
/-- the number that the program gives to its kind. -/
def plc (b : Nat) : Nat :=
  if fI < fR b then 6 else if fR b = fI then (if fS b then 0 else 5) else if fR b = 0 then (if fS b then 2 else 3) else (if fS b then 1 else 4)
/-- as what it counts. -/
def clF (b : Nat) : Nat := if fI < fR b then 0 else if fS b then 0 else min (fR b) fMost
/-- its part. -/
def prtF (a b : Nat) : Nat := if clF a = 0 ∨ clF b = 0 then 0 else if clF b ≤ clF a then fOne else (Ieee.double.div (clF a) (clF b)).getD 0

theorem clF_le (b : Nat) : clF b ≤ fMost := by unfold clF; split; · exact Nat.zero_le _
                                               split; · exact Nat.zero_le _
                                               exact Nat.min_le_right _ _
theorem clF_lt (b : Nat) : clF b < fI := by have := clF_le b; rw [fI_val]; unfold fMost at this; omega
theorem pos_rs {x : Nat} (h : x ≤ fI) : fR x = x ∧ fS x = false := by
  rw [fI_val] at h
  exact ⟨fR_of (by omega), fS_of (by omega)⟩
theorem fK_pos {x : Nat} (h : x ≤ fI) : fK x = x := by obtain ⟨a, b⟩ := pos_rs h; unfold fK; rw [a, b]; rfl

/-- floats that are not below 0 stand to each other as their words. -/
theorem order_pos {x y : Nat} (hx : x ≤ fI) (hy : y ≤ fI) : FloatKind.f64.format.order x y = some (compare (x : Int) (y : Int)) := by
  have h := order_key (a := x) (b := y) (by rw [(pos_rs hx).1]; exact hx) (by rw [(pos_rs hy).1]; exact hy)
  rw [fK_pos hx, fK_pos hy] at h
  exact h
theorem order_lt {x y : Nat} (hy : y ≤ fI) (h : x < y) : FloatKind.f64.format.order x y = some .lt := by rw [order_pos (by omega) hy, icmp_lt (by omega)]
theorem order_gt {x y : Nat} (hx : x ≤ fI) (h : y < x) : FloatKind.f64.format.order x y = some .gt := by rw [order_pos hx (by omega), icmp_gt (by omega)]
theorem order_eq {x y : Nat} (hx : x ≤ fI) (h : x = y) : FloatKind.f64.format.order x y = some .eq := by subst h; rw [order_pos hx hx, icmp_eq rfl]

theorem xor_low {c : Nat} (h : c < 2 ^ 63) : c ^^^ 2 ^ 63 = 2 ^ 63 + c := by
  have e := Nat.two_pow_add_eq_or_of_lt h 1
  rw [Nat.mul_one] at e
  rw [e]
  apply Nat.eq_of_testBit_eq
  intro i
  rw [Nat.testBit_xor, Nat.testBit_or, Nat.testBit_two_pow]
  by_cases hi : 63 = i
  · subst hi; rw [Nat.testBit_lt_two_pow h]; rfl
  · simp [hi]
theorem neg_low {c : Nat} (h : c < 2 ^ 63) : Op.negFloat .f64 c = 2 ^ 63 + c := xor_low h
theorem neg_high {c : Nat} (h : c < 2 ^ 63) : Op.negFloat .f64 (2 ^ 63 + c) = c := by
  show (2 ^ 63 + c) ^^^ 2 ^ 63 = c
  rw [← xor_low h, Nat.xor_assoc, Nat.xor_self, Nat.xor_zero]

/-- a word is its sign and its rung. -/
theorem word_split {b : Nat} (h : b < 2 ^ 64) : (fS b = false ∧ b = fR b ∧ b < 2 ^ 63) ∨ (fS b = true ∧ b = 2 ^ 63 + fR b) := by
  unfold fS fR
  by_cases c : b < 2 ^ 63
  · left; exact ⟨by rw [Nat.div_eq_of_lt c]; rfl, (Nat.mod_eq_of_lt c).symm, c⟩
  · right
    have h1 : b / 2 ^ 63 = 1 := by omega
    exact ⟨by rw [h1]; rfl, by omega⟩
/-- how comparisons of floats are decided, once their order is known. -/
theorem ord_none_lt : ((none : Option Ordering) == some Ordering.lt) = false := rfl
theorem ord_none_gt : ((none : Option Ordering) == some Ordering.gt) = false := rfl
theorem ord_none_eq : ((none : Option Ordering) == some Ordering.eq) = false := rfl
theorem ord_none_ne : ((none : Option Ordering) != some Ordering.eq) = true := rfl
theorem ord_lt_lt : ((some Ordering.lt : Option Ordering) == some Ordering.lt) = true := rfl
theorem ord_lt_gt : ((some Ordering.lt : Option Ordering) == some Ordering.gt) = false := rfl
theorem ord_lt_eq : ((some Ordering.lt : Option Ordering) == some Ordering.eq) = false := rfl
theorem ord_lt_ne : ((some Ordering.lt : Option Ordering) != some Ordering.eq) = true := rfl
theorem ord_gt_lt : ((some Ordering.gt : Option Ordering) == some Ordering.lt) = false := rfl
theorem ord_gt_gt : ((some Ordering.gt : Option Ordering) == some Ordering.gt) = true := rfl
theorem ord_gt_eq : ((some Ordering.gt : Option Ordering) == some Ordering.eq) = false := rfl
theorem ord_gt_ne : ((some Ordering.gt : Option Ordering) != some Ordering.eq) = true := rfl
theorem ord_eq_lt : ((some Ordering.eq : Option Ordering) == some Ordering.lt) = false := rfl
theorem ord_eq_gt : ((some Ordering.eq : Option Ordering) == some Ordering.gt) = false := rfl
theorem ord_eq_eq : ((some Ordering.eq : Option Ordering) == some Ordering.eq) = true := rfl
theorem ord_eq_ne : ((some Ordering.eq : Option Ordering) != some Ordering.eq) = false := rfl
end Go.Proofs.Ytmbddengmheeeaa
