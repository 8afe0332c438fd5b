import Derived.Test.YtlcgciafclfoeaaBase
import Derived.Laws.Bits64
import Derived.Laws.BitsAllLaws
import Derived.StillTailTactics
import Derived.RegionTactic
import Derived.Lib.SmallJoins
import Derived.Deep.CutRange
section
/-
  The mathematics of hash: numbers of 64 bits as BitVec 64; how the walk writes their sums, shifts and bits; Mix, and that no two numbers have the same one; Sip.
-/
namespace Go.Proofs.Ytlcgciafclfoeaa
open Go.RowKit
set_option linter.unusedVariables false

/-- a number of 64 bits as Go has it. -/
def uV (x : BitVec 64) : Value := .int .u64 (x.toNat : Int)
theorem ret_u {a : Int} {x : BitVec 64} (h : a = (x.toNat : Int)) : Ending.returned (.int .u64 a) = .returned (uV x) := by rw [h]; rfl

theorem c_add (a b : BitVec 64) : IntKind.u64.wrap ((a.toNat : Int) + (b.toNat : Int)) = ((a + b).toNat : Int) := by
  rw [IntKind.wrap_u64, BitVec.toNat_add]; omega
theorem c_mul (a b : BitVec 64) : IntKind.u64.wrap ((a.toNat : Int) * (b.toNat : Int)) = ((a * b).toNat : Int) := by
  rw [IntKind.wrap_u64, BitVec.toNat_mul]; simp
theorem c_xor (a b : BitVec 64) : bits .xor .u64 (a.toNat : Int) (b.toNat : Int) = ((a ^^^ b).toNat : Int) := by
  rw [u64_xor_nat _ _ a.isLt b.isLt, BitVec.toNat_xor]
theorem c_or (a b : BitVec 64) : bits .or .u64 (a.toNat : Int) (b.toNat : Int) = ((a ||| b).toNat : Int) := by
  rw [u64_or_nat _ _ a.isLt b.isLt, BitVec.toNat_or]
theorem c_shr (a : BitVec 64) (k : Nat) (d : Int) (hd : d = ((2 ^ k : Nat) : Int)) : (a.toNat : Int) / d = ((a >>> k).toNat : Int) := by
  rw [BitVec.toNat_ushiftRight, Nat.shiftRight_eq_div_pow, hd]; simp
theorem c_shl (a : BitVec 64) (k : Nat) (d : Int) (hd : d = ((2 ^ k : Nat) : Int)) : IntKind.u64.wrap ((a.toNat : Int) * d) = ((a <<< k).toNat : Int) := by
  rw [BitVec.toNat_shiftLeft, Nat.shiftLeft_eq, IntKind.wrap_u64, hd]; simp

/-! Mix -/
def mixI (n : Int) : Int :=
  bits .xor .u64
    (IntKind.u64.wrap (bits .xor .u64 (IntKind.u64.wrap (bits .xor .u64 (IntKind.u64.wrap (n + 11400714819323198485)) (IntKind.u64.wrap (n + 11400714819323198485) / 1073741824) * 13787848793156543929))
      (IntKind.u64.wrap (bits .xor .u64 (IntKind.u64.wrap (n + 11400714819323198485)) (IntKind.u64.wrap (n + 11400714819323198485) / 1073741824) * 13787848793156543929) / 134217728) * 10723151780598845931))
    (IntKind.u64.wrap (bits .xor .u64 (IntKind.u64.wrap (bits .xor .u64 (IntKind.u64.wrap (n + 11400714819323198485)) (IntKind.u64.wrap (n + 11400714819323198485) / 1073741824) * 13787848793156543929))
      (IntKind.u64.wrap (bits .xor .u64 (IntKind.u64.wrap (n + 11400714819323198485)) (IntKind.u64.wrap (n + 11400714819323198485) / 1073741824) * 13787848793156543929) / 134217728) * 10723151780598845931) / 2147483648)
/-- a number's bits turned by its own, shifted. -/
def foldB (k : Nat) (x : BitVec 64) : BitVec 64 := x ^^^ (x >>> k)
def mixB (n : BitVec 64) : BitVec 64 := foldB 31 (foldB 27 (foldB 30 (n + 11400714819323198485#64) * 13787848793156543929#64) * 10723151780598845931#64)
theorem add_lit (n : BitVec 64) : IntKind.u64.wrap ((n.toNat : Int) + 11400714819323198485) = ((n + 11400714819323198485#64).toNat : Int) := c_add n 11400714819323198485#64
theorem mul_lit1 (n : BitVec 64) : IntKind.u64.wrap ((n.toNat : Int) * 13787848793156543929) = ((n * 13787848793156543929#64).toNat : Int) := c_mul n 13787848793156543929#64
theorem mul_lit2 (n : BitVec 64) : IntKind.u64.wrap ((n.toNat : Int) * 10723151780598845931) = ((n * 10723151780598845931#64).toNat : Int) := c_mul n 10723151780598845931#64
theorem mixI_eq (n : BitVec 64) : mixI (n.toNat : Int) = ((mixB n).toNat : Int) := by
  unfold mixI
  rw [add_lit, c_shr _ 30 1073741824 (by decide), c_xor, mul_lit1, c_shr _ 27 134217728 (by decide), c_xor, mul_lit2, c_shr _ 31 2147483648 (by decide), c_xor]
  rfl

theorem fold_inj {k : Nat} (hk : 0 < k) {x y : BitVec 64} (h : foldB k x = foldB k y) : x = y := by
  unfold foldB at h
  have e : (x ^^^ y) = (x ^^^ y) >>> k := by
    have h2 : (x ^^^ x >>> k) ^^^ (y ^^^ x >>> k) = (y ^^^ y >>> k) ^^^ (y ^^^ x >>> k) := by rw [h]
    have e1 : (x ^^^ x >>> k) ^^^ (y ^^^ x >>> k) = x ^^^ y := by
      apply BitVec.eq_of_getLsbD_eq; intro i hi; simp only [BitVec.getLsbD_xor]
      cases x.getLsbD i <;> cases y.getLsbD i <;> cases (x >>> k).getLsbD i <;> rfl
    have e2 : (y ^^^ y >>> k) ^^^ (y ^^^ x >>> k) = (x ^^^ y) >>> k := by
      rw [BitVec.ushiftRight_xor_distrib]
      apply BitVec.eq_of_getLsbD_eq; intro i hi; simp only [BitVec.getLsbD_xor]
      cases (x >>> k).getLsbD i <;> cases y.getLsbD i <;> cases (y >>> k).getLsbD i <;> rfl
    rw [e1, e2] at h2; exact h2
  obtain ⟨d, hd⟩ : ∃ d, d = x ^^^ y := ⟨_, rfl⟩
  rw [← hd] at e
  have e3 : d.toNat = d.toNat / 2 ^ k := by
    have := congrArg BitVec.toNat e
    rwa [BitVec.toNat_ushiftRight, Nat.shiftRight_eq_div_pow] at this
  have e4 : d.toNat = 0 := by
    have h2 : 2 ≤ 2 ^ k := by
      calc 2 = 2 ^ 1 := rfl
        _ ≤ 2 ^ k := Nat.pow_le_pow_right (by omega) hk
    rcases Nat.eq_zero_or_pos d.toNat with h0 | h0
    · exact h0
    · have := Nat.div_lt_self h0 (show 1 < 2 ^ k by omega)
      omega
  have e5 : d = 0#64 := BitVec.eq_of_toNat_eq (by rw [e4]; rfl)
  rw [e5] at hd
  apply BitVec.eq_of_getLsbD_eq
  intro i hi
  have := congrArg (fun v => v.getLsbD i) hd
  simp only [BitVec.getLsbD_xor, BitVec.getLsbD_zero] at this
  revert this
  cases x.getLsbD i <;> cases y.getLsbD i <;> simp
theorem mul_inj1 {x y : BitVec 64} (h : x * 13787848793156543929#64 = y * 13787848793156543929#64) : x = y := by
  have h2 := congrArg (fun v => v * 10871156337175269513#64) h
  simp only [BitVec.mul_assoc] at h2
  have e : 13787848793156543929#64 * 10871156337175269513#64 = 1#64 := by decide
  rw [e, BitVec.mul_one, BitVec.mul_one] at h2
  exact h2
theorem mul_inj2 {x y : BitVec 64} (h : x * 10723151780598845931#64 = y * 10723151780598845931#64) : x = y := by
  have h2 := congrArg (fun v => v * 3573116690164977347#64) h
  simp only [BitVec.mul_assoc] at h2
  have e : 10723151780598845931#64 * 3573116690164977347#64 = 1#64 := by decide
  rw [e, BitVec.mul_one, BitVec.mul_one] at h2
  exact h2
theorem add_inj {x y c : BitVec 64} (h : x + c = y + c) : x = y := by
  have h2 := congrArg (fun v => v - c) h
  simp only [BitVec.add_sub_cancel] at h2
  exact h2
theorem mix_inj {x y : BitVec 64} (h : mixB x = mixB y) : x = y :=
  add_inj (fold_inj (by omega) (mul_inj1 (fold_inj (by omega) (mul_inj2 (fold_inj (by omega) h)))))
theorem xor_inj {x y c : BitVec 64} (h : c ^^^ x = c ^^^ y) : x = y := by
  apply BitVec.eq_of_getLsbD_eq
  intro i hi
  have := congrArg (fun v => v.getLsbD i) h
  simp only [BitVec.getLsbD_xor] at this
  revert this
  cases x.getLsbD i <;> cases y.getLsbD i <;> cases c.getLsbD i <;> simp
def pairB (s a b : BitVec 64) : BitVec 64 := mixB (mixB (mixB s ^^^ a) ^^^ b)
theorem pair_inj {s a x y : BitVec 64} (h : pairB s a x = pairB s a y) : x = y := xor_inj (mix_inj h)

/-! Sip -/
def rotB (k : Nat) (x : BitVec 64) : BitVec 64 := (x <<< k) ||| (x >>> (64 - k))
structure Sip4 where
  a : BitVec 64
  b : BitVec 64
  c : BitVec 64
  d : BitVec 64
def Sip4.vals (s : Sip4) : Array Value := #[uV s.a, uV s.b, uV s.c, uV s.d]
def step01 (k : Nat) (s : Sip4) : Sip4 := ⟨s.a + s.b, rotB k s.b ^^^ (s.a + s.b), s.c, s.d⟩
def step23 (k : Nat) (s : Sip4) : Sip4 := ⟨s.a, s.b, s.c + s.d, rotB k s.d ^^^ (s.c + s.d)⟩
def step03 (k : Nat) (s : Sip4) : Sip4 := ⟨s.a + s.d, s.b, s.c, rotB k s.d ^^^ (s.a + s.d)⟩
def step21 (k : Nat) (s : Sip4) : Sip4 := ⟨s.a, rotB k s.b ^^^ (s.c + s.b), s.c + s.b, s.d⟩
def turn0 (s : Sip4) : Sip4 := ⟨rotB 32 s.a, s.b, s.c, s.d⟩
def turn2 (s : Sip4) : Sip4 := ⟨s.a, s.b, rotB 32 s.c, s.d⟩
def roundS (s : Sip4) : Sip4 := turn2 (step21 17 (step03 21 (step23 16 (turn0 (step01 13 s)))))
def roundsS : Nat → Sip4 → Sip4
  | 0, s => s
  | n + 1, s => roundsS n (roundS s)
theorem rounds_last : ∀ (n : Nat) (s : Sip4), roundsS (n + 1) s = roundS (roundsS n s)
  | 0, _ => rfl
  | n + 1, s => rounds_last n (roundS s)
def inS (s : Sip4) (m : BitVec 64) : Sip4 :=
  let t := roundS (roundS ⟨s.a, s.b, s.c, s.d ^^^ m⟩)
  ⟨t.a ^^^ m, t.b, t.c, t.d⟩
/-- some bytes as a number, the first one the lowest, from the k-th place on. -/
def wordF : Nat → List UInt8 → BitVec 64
  | _, [] => 0#64
  | k, x :: l => (BitVec.ofNat 64 x.toNat <<< (8 * k)) ||| wordF (k + 1) l
theorem wordF_snoc (x : UInt8) : ∀ (l : List UInt8) (k : Nat), wordF k (l ++ [x]) = wordF k l ||| (BitVec.ofNat 64 x.toNat <<< (8 * (k + l.length)))
  | [], k => by simp [wordF]
  | y :: l, k => by
    rw [List.cons_append, wordF, wordF, wordF_snoc x l (k + 1), BitVec.or_assoc, List.length_cons]
    rw [show k + 1 + l.length = k + (l.length + 1) by omega]
def wordB (l : List UInt8) : BitVec 64 := wordF 0 l
theorem wordB_take {l : List UInt8} {k : Nat} (h : k < l.length) : wordB (l.take (k + 1)) = wordB (l.take k) ||| (BitVec.ofNat 64 l[k].toNat <<< (8 * k)) := by
  unfold wordB
  rw [List.take_succ_eq_append_getElem h, wordF_snoc, List.length_take, Nat.zero_add, Nat.min_eq_left (by omega)]
/-- what is left when all whole words went in. -/
def bodyS (s : Sip4) (l : List UInt8) : Sip4 × List UInt8 :=
  if 8 ≤ l.length then bodyS (inS s (wordB (l.take 8))) (l.drop 8) else (s, l)
termination_by l.length
decreasing_by simp; omega
theorem bodyS_more {s : Sip4} {l : List UInt8} (h : 8 ≤ l.length) : bodyS s l = bodyS (inS s (wordB (l.take 8))) (l.drop 8) := by rw [bodyS, if_pos h]
theorem bodyS_end {s : Sip4} {l : List UInt8} (h : l.length < 8) : bodyS s l = (s, l) := by rw [bodyS, if_neg (by omega)]
def sipEnd (s : Sip4) (l : List UInt8) (n : Nat) : BitVec 64 :=
  let t := inS s (wordB l ||| (BitVec.ofNat 64 n <<< 56))
  let u := roundsS 4 ⟨t.a, t.b, t.c ^^^ 255#64, t.d⟩
  u.a ^^^ u.b ^^^ u.c ^^^ u.d
def startS (k0 k1 : BitVec 64) : Sip4 := ⟨k0 ^^^ 8317987319222330741#64, k1 ^^^ 7237128888997146477#64, k0 ^^^ 7816392313619706465#64, k1 ^^^ 8387220255154660723#64⟩
def sipB (k0 k1 : BitVec 64) (l : List UInt8) : BitVec 64 := sipEnd (bodyS (startS k0 k1) l).1 (bodyS (startS k0 k1) l).2 l.length
theorem ofNat_mod_shift (n : Nat) : BitVec.ofNat 64 (n % 256) <<< 56 = BitVec.ofNat 64 n <<< 56 := by
  apply BitVec.eq_of_toNat_eq
  simp only [BitVec.toNat_shiftLeft, BitVec.toNat_ofNat, Nat.shiftLeft_eq]
  omega
end Go.Proofs.Ytlcgciafclfoeaa

end
section
/-
  The walks of Mix, Pair, Port and of turned numbers, the program's and the document's own.
-/
namespace Go.Proofs.Ytlcgciafclfoeaa
open Go.RowKit
set_option linter.unusedVariables false

set_option maxHeartbeats 400000 in
theorem mix_any (n : BitVec 64) (w : World) :
    Calls Try.prog 13 #[uV n] w fun e w' => e = .returned (uV (mixB n)) ∧ w = w' := by
  have h : ∀ k : Int, Calls Try.prog 13 #[.int .u64 k] w fun e w' => e = .returned (.int .u64 (mixI k)) ∧ w = w' := by
    intro k
    go_enter Try.func13, Try.ntmps13
    go_wp2
    go_ret
    exact ⟨rfl, rfl⟩
  refine (h _).mono fun e w' ⟨he, hw⟩ => ⟨?_, hw⟩
  rw [he, mixI_eq]; rfl

set_option maxHeartbeats 400000 in
theorem refmix_any (n : BitVec 64) (w : World) :
    Calls Try.prog 14 #[uV n] w fun e w' => e = .returned (uV (mixB n)) ∧ w = w' := by
  have h : ∀ k : Int, Calls Try.prog 14 #[.int .u64 k] w fun e w' => e = .returned (.int .u64 (mixI k)) ∧ w = w' := by
    intro k
    go_enter Try.func14, Try.ntmps14
    go_wp2
    go_ret
    exact ⟨rfl, rfl⟩
  refine (h _).mono fun e w' ⟨he, hw⟩ => ⟨?_, hw⟩
  rw [he, mixI_eq]; rfl

set_option maxHeartbeats 400000 in
theorem pair_any (s a b : BitVec 64) (w : World) :
    Calls Try.prog 15 #[uV s, uV a, uV b] w fun e w' => e = .returned (uV (pairB s a b)) ∧ w = w' := by
  unfold uV
  go_enter Try.func15, Try.ntmps15
  go_wp2_with fail
  refine (mix_any s _).mono ?_
  rintro e w' ⟨rfl, rfl⟩
  unfold uV
  go_wp2_with fail
  rw [c_xor]
  refine (mix_any _ _).mono ?_
  rintro e w' ⟨rfl, rfl⟩
  unfold uV
  go_wp2_with fail
  rw [c_xor]
  refine (mix_any _ _).mono ?_
  rintro e w' ⟨rfl, rfl⟩
  unfold uV
  go_wp2
  go_ret
  exact ⟨rfl, rfl⟩

set_option maxHeartbeats 400000 in
theorem refpair_any (s a b : BitVec 64) (w : World) :
    Calls Try.prog 16 #[uV s, uV a, uV b] w fun e w' => e = .returned (uV (pairB s a b)) ∧ w = w' := by
  unfold uV
  go_enter Try.func16, Try.ntmps16
  go_wp2_with fail
  refine (refmix_any s _).mono ?_
  rintro e w' ⟨rfl, rfl⟩
  unfold uV
  go_wp2_with fail
  rw [c_xor]
  refine (refmix_any _ _).mono ?_
  rintro e w' ⟨rfl, rfl⟩
  unfold uV
  go_wp2_with fail
  rw [c_xor]
  refine (refmix_any _ _).mono ?_
  rintro e w' ⟨rfl, rfl⟩
  unfold uV
  go_wp2
  go_ret
  exact ⟨rfl, rfl⟩

/-- the turns that rounds make. -/
def Turn5 (k : Nat) : Prop := k = 13 ∨ k = 16 ∨ k = 17 ∨ k = 21 ∨ k = 32
theorem rot_lit (x : BitVec 64) (k : Nat) (a b : Int) (ha : a = ((2 ^ k : Nat) : Int)) (hb : b = ((2 ^ (64 - k) : Nat) : Int)) :
    bits .or .u64 (IntKind.u64.wrap ((x.toNat : Int) * a)) ((x.toNat : Int) / b) = ((rotB k x).toNat : Int) := by
  rw [c_shl x k a ha, c_shr x (64 - k) b hb, c_or]; rfl
set_option maxHeartbeats 1000000 in
theorem rotl_any (x : BitVec 64) (k : Nat) (hk : Turn5 k) (w : World) :
    Calls Try.prog 29 #[uV x, .int .i64 (k : Int)] w fun e w' => e = .returned (uV (rotB k x)) ∧ w = w' := by
  unfold uV
  have a1 : bits .and .u64 13 63 = 13 := by decide
  have a2 : bits .and .u64 16 63 = 16 := by decide
  have a3 : bits .and .u64 17 63 = 17 := by decide
  have a4 : bits .and .u64 21 63 = 21 := by decide
  have a5 : bits .and .u64 32 63 = 32 := by decide
  rcases hk with rfl | rfl | rfl | rfl | rfl
  all_goals
    go_enter Try.func29, Try.ntmps29
    go_wp2
    go_ret
    exact ⟨ret_int (rot_lit x _ _ _ (by decide) (by decide)), rfl⟩
set_option maxHeartbeats 1000000 in
theorem turnk_any (x : BitVec 64) (k : Nat) (hk : Turn5 k) (w : World) :
    Calls Try.prog 30 #[uV x, .int .u64 (k : Int)] w fun e w' => e = .returned (uV (rotB k x)) ∧ w = w' := by
  unfold uV
  rcases hk with rfl | rfl | rfl | rfl | rfl
  all_goals
    go_enter Try.func30, Try.ntmps30
    go_wp2
    go_ret
    exact ⟨ret_int (rot_lit x _ _ _ (by decide) (by decide)), rfl⟩

theorem emod_cast (x : BitVec 64) : (x.toNat : Int) % 16384 = ((x.toNat % 16384 : Nat) : Int) := by simp
set_option maxHeartbeats 1000000 in
theorem port_any (x : BitVec 64) (w : World) :
    Calls Try.prog 19 #[uV x] w fun e w' => e = .returned (.int .i64 ((49152 + x.toNat % 16384 : Nat) : Int)) ∧ w = w' := by
  have hx := x.isLt
  have hm : x.toNat % 16384 < 16384 := Nat.mod_lt _ (by omega)
  unfold uV
  go_enter Try.func19, Try.ntmps19
  go_wp2
  go_ret
  exact ⟨ret_int (by simp), rfl⟩
set_option maxHeartbeats 1000000 in
theorem refport_any (x : BitVec 64) (w : World) :
    Calls Try.prog 20 #[uV x] w fun e w' => e = .returned (.int .i64 ((49152 + x.toNat % 16384 : Nat) : Int)) ∧ w = w' := by
  have hx := x.isLt
  have hm : x.toNat % 16384 < 16384 := Nat.mod_lt _ (by omega)
  unfold uV
  go_enter Try.func20, Try.ntmps20
  go_wp2
  go_ret
  exact ⟨ret_int (by simp), rfl⟩
end Go.Proofs.Ytlcgciafclfoeaa

end
section
/-
  The walks of Sip's state, the program's: a step of two numbers, rounds, a word more.
-/
namespace Go.Proofs.Ytlcgciafclfoeaa
open Go.RowKit
set_option linter.unusedVariables false

/-- block g holds the four numbers. -/
def StH (w : World) (g : Nat) (t : TypeId) (s : Sip4) : Prop := w.heap[g]? = some (.cells s.vals t (0, 0))
theorem StH.c0 {w : World} {g : Nat} {t : TypeId} {s : Sip4} (h : StH w g t s) : w.cell? ⟨g, 0, none⟩ = some (.int .u64 (s.a.toNat : Int)) := Go.Joins.cell_of_block h 0
theorem StH.c1 {w : World} {g : Nat} {t : TypeId} {s : Sip4} (h : StH w g t s) : w.cell? ⟨g, 1, none⟩ = some (.int .u64 (s.b.toNat : Int)) := Go.Joins.cell_of_block h 1
theorem StH.c2 {w : World} {g : Nat} {t : TypeId} {s : Sip4} (h : StH w g t s) : w.cell? ⟨g, 2, none⟩ = some (.int .u64 (s.c.toNat : Int)) := Go.Joins.cell_of_block h 2
theorem StH.c3 {w : World} {g : Nat} {t : TypeId} {s : Sip4} (h : StH w g t s) : w.cell? ⟨g, 3, none⟩ = some (.int .u64 (s.d.toNat : Int)) := Go.Joins.cell_of_block h 3
theorem StH.fr {w : World} {g : Nat} {t : TypeId} {s : Sip4} (h : StH w g t s) (i : Nat) : w.frozen? ⟨g, i, none⟩ = false := Go.Joins.unfrozen_of_block h i
theorem StH.lt {w : World} {g : Nat} {t : TypeId} {s : Sip4} (h : StH w g t s) : g < w.heap.size := (Array.getElem?_eq_some_iff.1 h).1
theorem StH.set {w : World} {g : Nat} {t : TypeId} {s s' : Sip4} (h : StH w g t s) (i : Nat) (x : BitVec 64) (e : s.vals.setIfInBounds i (uV x) = s'.vals) : StH (w.setCell ⟨g, i, none⟩ (uV x)) g t s' := by
  unfold StH
  rw [Go.Joins.block_setCell h, e]
set_option maxHeartbeats 1000000 in
theorem step01_any (w : World) (g : Nat) (s : Sip4) (h : StH w g 43 s) :
    Calls Try.prog 28 #[.pointer (some ⟨g, 0, none⟩), .int .i64 0, .int .i64 1, .int .i64 13] w fun e w' => e = .returned (.tuple #[]) ∧ StH w' g 43 (step01 13 s) ∧ Below g w w' := by
  have ci := h.c0
  have cj := h.c1
  have fi := h.fr 0
  have H : ∀ x, StH (w.setCell ⟨g, 0, none⟩ (uV x)).drew g 43 (⟨x, s.b, s.c, s.d⟩ : Sip4) := fun x => h.set 0 x rfl
  have HH := hide H
  have HS := hide h
  clear h H
  go_enter Try.func28, Try.ntmps28
  go_wp2
  go_still_tail 13, (by kernel_rfl)
  change wpList _ _ _ _ _ w.drew
  go_wp2_with fail
  rw [c_add]
  obtain ⟨S, hS⟩ : ∃ S, S = s.a + s.b := ⟨_, rfl⟩
  rw [← hS]
  have hW : StH (w.setCell ⟨g, 0, none⟩ (Value.int IntKind.u64 (S.toNat : Int))).drew g 43 _ := HH.out _
  have hB : Below g w (w.setCell ⟨g, 0, none⟩ (Value.int IntKind.u64 (S.toNat : Int))).drew := ((Below.refl g w).setCell (Nat.le_refl _) _).drew
  generalize (w.setCell ⟨g, 0, none⟩ (Value.int IntKind.u64 (S.toNat : Int))).drew = W at hW hB ⊢
  clear ci cj fi HH HS
  have ci : W.drew.cell? ⟨g, 0, none⟩ = some (.int .u64 (S.toNat : Int)) := hW.c0
  have cj : W.drew.cell? ⟨g, 1, none⟩ = some (.int .u64 (s.b.toNat : Int)) := hW.c1
  have fj : W.drew.frozen? ⟨g, 1, none⟩ = false := hW.fr 1
  have H : StH (W.drew.setCell ⟨g, 1, none⟩ (uV (rotB 13 s.b ^^^ S))) g 43 (step01 13 s) := StH.set (w := W.drew) hW 1 _ (by rw [hS]; rfl)
  have K : Calls Try.prog 29 #[.int .u64 (s.b.toNat : Int), .int .i64 13] W.drew fun e w'' => e = .returned (.int .u64 ((rotB 13 s.b).toNat : Int)) ∧ w'' = W.drew := (rotl_any s.b 13 (by unfold Turn5; simp) W.drew).mono fun _ _ h => ⟨h.1, h.2.symm⟩
  have HH := hide H
  have HB := hide hB
  clear H hW hB hS
  refine wp_region_still_tail 17 (by kernel_rfl) (by kernel_rfl) ?_
  simp only [List.take_succ_cons, List.take_zero, List.drop_succ_cons, List.drop_zero]
  change wpStill _ _ W.drew _ _ _
  repeat (first | still_step | (still_call K))
  refine wpStill_nil ?_
  change wpList _ _ _ _ _ W.drew
  obtain ⟨V, hV⟩ : ∃ V, V = W.drew := ⟨_, rfl⟩
  have HBV : Hid (Below g w V) := hide (by rw [hV]; exact HB.out.drew)
  rw [← hV] at HH ci cj fj ⊢
  clear K hV
  unfold uV at HH
  go_wp2
  go_end0
  exact ⟨rfl, by rw [c_xor]; exact HH.out, HBV.out.setCell (Nat.le_refl _) _⟩

set_option maxHeartbeats 1000000 in
theorem step23_any (w : World) (g : Nat) (s : Sip4) (h : StH w g 43 s) :
    Calls Try.prog 28 #[.pointer (some ⟨g, 0, none⟩), .int .i64 2, .int .i64 3, .int .i64 16] w fun e w' => e = .returned (.tuple #[]) ∧ StH w' g 43 (step23 16 s) ∧ Below g w w' := by
  have ci := h.c2
  have cj := h.c3
  have fi := h.fr 2
  have H : ∀ x, StH (w.setCell ⟨g, 2, none⟩ (uV x)).drew g 43 (⟨s.a, s.b, x, s.d⟩ : Sip4) := fun x => h.set 2 x rfl
  have HH := hide H
  have HS := hide h
  clear h H
  go_enter Try.func28, Try.ntmps28
  go_wp2
  go_still_tail 13, (by kernel_rfl)
  change wpList _ _ _ _ _ w.drew
  go_wp2_with fail
  rw [c_add]
  obtain ⟨S, hS⟩ : ∃ S, S = s.c + s.d := ⟨_, rfl⟩
  rw [← hS]
  have hW : StH (w.setCell ⟨g, 2, none⟩ (Value.int IntKind.u64 (S.toNat : Int))).drew g 43 _ := HH.out _
  have hB : Below g w (w.setCell ⟨g, 2, none⟩ (Value.int IntKind.u64 (S.toNat : Int))).drew := ((Below.refl g w).setCell (Nat.le_refl _) _).drew
  generalize (w.setCell ⟨g, 2, none⟩ (Value.int IntKind.u64 (S.toNat : Int))).drew = W at hW hB ⊢
  clear ci cj fi HH HS
  have ci : W.drew.cell? ⟨g, 2, none⟩ = some (.int .u64 (S.toNat : Int)) := hW.c2
  have cj : W.drew.cell? ⟨g, 3, none⟩ = some (.int .u64 (s.d.toNat : Int)) := hW.c3
  have fj : W.drew.frozen? ⟨g, 3, none⟩ = false := hW.fr 3
  have H : StH (W.drew.setCell ⟨g, 3, none⟩ (uV (rotB 16 s.d ^^^ S))) g 43 (step23 16 s) := StH.set (w := W.drew) hW 3 _ (by rw [hS]; rfl)
  have K : Calls Try.prog 29 #[.int .u64 (s.d.toNat : Int), .int .i64 16] W.drew fun e w'' => e = .returned (.int .u64 ((rotB 16 s.d).toNat : Int)) ∧ w'' = W.drew := (rotl_any s.d 16 (by unfold Turn5; simp) W.drew).mono fun _ _ h => ⟨h.1, h.2.symm⟩
  have HH := hide H
  have HB := hide hB
  clear H hW hB hS
  refine wp_region_still_tail 17 (by kernel_rfl) (by kernel_rfl) ?_
  simp only [List.take_succ_cons, List.take_zero, List.drop_succ_cons, List.drop_zero]
  change wpStill _ _ W.drew _ _ _
  repeat (first | still_step | (still_call K))
  refine wpStill_nil ?_
  change wpList _ _ _ _ _ W.drew
  obtain ⟨V, hV⟩ : ∃ V, V = W.drew := ⟨_, rfl⟩
  have HBV : Hid (Below g w V) := hide (by rw [hV]; exact HB.out.drew)
  rw [← hV] at HH ci cj fj ⊢
  clear K hV
  unfold uV at HH
  go_wp2
  go_end0
  exact ⟨rfl, by rw [c_xor]; exact HH.out, HBV.out.setCell (Nat.le_refl _) _⟩

set_option maxHeartbeats 1000000 in
theorem step03_any (w : World) (g : Nat) (s : Sip4) (h : StH w g 43 s) :
    Calls Try.prog 28 #[.pointer (some ⟨g, 0, none⟩), .int .i64 0, .int .i64 3, .int .i64 21] w fun e w' => e = .returned (.tuple #[]) ∧ StH w' g 43 (step03 21 s) ∧ Below g w w' := by
  have ci := h.c0
  have cj := h.c3
  have fi := h.fr 0
  have H : ∀ x, StH (w.setCell ⟨g, 0, none⟩ (uV x)).drew g 43 (⟨x, s.b, s.c, s.d⟩ : Sip4) := fun x => h.set 0 x rfl
  have HH := hide H
  have HS := hide h
  clear h H
  go_enter Try.func28, Try.ntmps28
  go_wp2
  go_still_tail 13, (by kernel_rfl)
  change wpList _ _ _ _ _ w.drew
  go_wp2_with fail
  rw [c_add]
  obtain ⟨S, hS⟩ : ∃ S, S = s.a + s.d := ⟨_, rfl⟩
  rw [← hS]
  have hW : StH (w.setCell ⟨g, 0, none⟩ (Value.int IntKind.u64 (S.toNat : Int))).drew g 43 _ := HH.out _
  have hB : Below g w (w.setCell ⟨g, 0, none⟩ (Value.int IntKind.u64 (S.toNat : Int))).drew := ((Below.refl g w).setCell (Nat.le_refl _) _).drew
  generalize (w.setCell ⟨g, 0, none⟩ (Value.int IntKind.u64 (S.toNat : Int))).drew = W at hW hB ⊢
  clear ci cj fi HH HS
  have ci : W.drew.cell? ⟨g, 0, none⟩ = some (.int .u64 (S.toNat : Int)) := hW.c0
  have cj : W.drew.cell? ⟨g, 3, none⟩ = some (.int .u64 (s.d.toNat : Int)) := hW.c3
  have fj : W.drew.frozen? ⟨g, 3, none⟩ = false := hW.fr 3
  have H : StH (W.drew.setCell ⟨g, 3, none⟩ (uV (rotB 21 s.d ^^^ S))) g 43 (step03 21 s) := StH.set (w := W.drew) hW 3 _ (by rw [hS]; rfl)
  have K : Calls Try.prog 29 #[.int .u64 (s.d.toNat : Int), .int .i64 21] W.drew fun e w'' => e = .returned (.int .u64 ((rotB 21 s.d).toNat : Int)) ∧ w'' = W.drew := (rotl_any s.d 21 (by unfold Turn5; simp) W.drew).mono fun _ _ h => ⟨h.1, h.2.symm⟩
  have HH := hide H
  have HB := hide hB
  clear H hW hB hS
  refine wp_region_still_tail 17 (by kernel_rfl) (by kernel_rfl) ?_
  simp only [List.take_succ_cons, List.take_zero, List.drop_succ_cons, List.drop_zero]
  change wpStill _ _ W.drew _ _ _
  repeat (first | still_step | (still_call K))
  refine wpStill_nil ?_
  change wpList _ _ _ _ _ W.drew
  obtain ⟨V, hV⟩ : ∃ V, V = W.drew := ⟨_, rfl⟩
  have HBV : Hid (Below g w V) := hide (by rw [hV]; exact HB.out.drew)
  rw [← hV] at HH ci cj fj ⊢
  clear K hV
  unfold uV at HH
  go_wp2
  go_end0
  exact ⟨rfl, by rw [c_xor]; exact HH.out, HBV.out.setCell (Nat.le_refl _) _⟩

set_option maxHeartbeats 1000000 in
theorem step21_any (w : World) (g : Nat) (s : Sip4) (h : StH w g 43 s) :
    Calls Try.prog 28 #[.pointer (some ⟨g, 0, none⟩), .int .i64 2, .int .i64 1, .int .i64 17] w fun e w' => e = .returned (.tuple #[]) ∧ StH w' g 43 (step21 17 s) ∧ Below g w w' := by
  have ci := h.c2
  have cj := h.c1
  have fi := h.fr 2
  have H : ∀ x, StH (w.setCell ⟨g, 2, none⟩ (uV x)).drew g 43 (⟨s.a, s.b, x, s.d⟩ : Sip4) := fun x => h.set 2 x rfl
  have HH := hide H
  have HS := hide h
  clear h H
  go_enter Try.func28, Try.ntmps28
  go_wp2
  go_still_tail 13, (by kernel_rfl)
  change wpList _ _ _ _ _ w.drew
  go_wp2_with fail
  rw [c_add]
  obtain ⟨S, hS⟩ : ∃ S, S = s.c + s.b := ⟨_, rfl⟩
  rw [← hS]
  have hW : StH (w.setCell ⟨g, 2, none⟩ (Value.int IntKind.u64 (S.toNat : Int))).drew g 43 _ := HH.out _
  have hB : Below g w (w.setCell ⟨g, 2, none⟩ (Value.int IntKind.u64 (S.toNat : Int))).drew := ((Below.refl g w).setCell (Nat.le_refl _) _).drew
  generalize (w.setCell ⟨g, 2, none⟩ (Value.int IntKind.u64 (S.toNat : Int))).drew = W at hW hB ⊢
  clear ci cj fi HH HS
  have ci : W.drew.cell? ⟨g, 2, none⟩ = some (.int .u64 (S.toNat : Int)) := hW.c2
  have cj : W.drew.cell? ⟨g, 1, none⟩ = some (.int .u64 (s.b.toNat : Int)) := hW.c1
  have fj : W.drew.frozen? ⟨g, 1, none⟩ = false := hW.fr 1
  have H : StH (W.drew.setCell ⟨g, 1, none⟩ (uV (rotB 17 s.b ^^^ S))) g 43 (step21 17 s) := StH.set (w := W.drew) hW 1 _ (by rw [hS]; rfl)
  have K : Calls Try.prog 29 #[.int .u64 (s.b.toNat : Int), .int .i64 17] W.drew fun e w'' => e = .returned (.int .u64 ((rotB 17 s.b).toNat : Int)) ∧ w'' = W.drew := (rotl_any s.b 17 (by unfold Turn5; simp) W.drew).mono fun _ _ h => ⟨h.1, h.2.symm⟩
  have HH := hide H
  have HB := hide hB
  clear H hW hB hS
  refine wp_region_still_tail 17 (by kernel_rfl) (by kernel_rfl) ?_
  simp only [List.take_succ_cons, List.take_zero, List.drop_succ_cons, List.drop_zero]
  change wpStill _ _ W.drew _ _ _
  repeat (first | still_step | (still_call K))
  refine wpStill_nil ?_
  change wpList _ _ _ _ _ W.drew
  obtain ⟨V, hV⟩ : ∃ V, V = W.drew := ⟨_, rfl⟩
  have HBV : Hid (Below g w V) := hide (by rw [hV]; exact HB.out.drew)
  rw [← hV] at HH ci cj fj ⊢
  clear K hV
  unfold uV at HH
  go_wp2
  go_end0
  exact ⟨rfl, by rw [c_xor]; exact HH.out, HBV.out.setCell (Nat.le_refl _) _⟩

end Go.Proofs.Ytlcgciafclfoeaa

end
section
/-
  The walks of Sip's rounds, of a word more, the program's.
-/
namespace Go.Proofs.Ytlcgciafclfoeaa
open Go.RowKit
set_option linter.unusedVariables false

set_option maxHeartbeats 2000000 in
theorem rounds_any (w : World) (g n : Nat) (s : Sip4) (hn : n ≤ 4) (h : StH w g 43 s) :
    Calls Try.prog 23 #[.pointer (some ⟨g, 0, none⟩), .int .i64 (n : Int)] w fun e w' => e = .returned (.tuple #[]) ∧ StH w' g 43 (roundsS n s) ∧ Below g w w' := by
  have H0 := hide h
  clear h
  go_enter Try.func23, Try.ntmps23
  go_wp2
  go_loopw [5] (fun i wr => ∃ k : Nat, k ≤ n ∧ i = .int .i64 (k : Int) ∧ Hid (StH wr g 43 (roundsS k s)) ∧ Hid (Below g w wr)) (fun i _ => n - (intOf i).toNat)
  case atStart => exact ⟨0, by omega, rfl, H0, hide (Below.refl _ _)⟩
  case round =>
    obtain ⟨k, hk, rfl, hs, hb⟩ := hrel
    clear H0
    by_cases hlt : k < n
    · have hwr := hs.out
      have hBwr := hb.out
      clear hs hb
      have HN : Hid (roundsS (k + 1) s = roundS (roundsS k s)) := hide (rounds_last k s)
      generalize roundsS k s = t at hwr HN
      go_wp2_with fail
      refine (step01_any wr g (t) hwr).mono ?_
      rintro e w1 ⟨rfl, hw1, hbw1⟩
      have hBw1 := hBwr.trans hbw1
      clear hwr hBwr hbw1
      have HN1 : Hid (roundsS (k + 1) s = turn2 (step21 17 (step03 21 (step23 16 (turn0 (step01 13 t)))))) := HN
      clear HN
      generalize step01 13 t = t at hw1 HN1
      go_wp2_with fail
      have ci : w1.drew.cell? ⟨g, 0, none⟩ = some (.int .u64 (t.a.toNat : Int)) := hw1.c0
      have fi : w1.drew.frozen? ⟨g, 0, none⟩ = false := hw1.fr 0
      have H : StH (w1.drew.setCell ⟨g, 0, none⟩ (uV (rotB 32 t.a))) g 43 (turn0 t) := StH.set (w := w1.drew) hw1 0 _ rfl
      have K : Calls Try.prog 29 #[.int .u64 (t.a.toNat : Int), .int .i64 32] w1.drew fun e w'' => e = .returned (.int .u64 ((rotB 32 t.a).toNat : Int)) ∧ w'' = w1.drew := (rotl_any t.a 32 (by unfold Turn5; simp) w1.drew).mono fun _ _ h => ⟨h.1, h.2.symm⟩
      have HH := hide H
      have HB := hide hBw1
      clear H hw1 hBw1
      refine wp_region_still_tail 8 (by kernel_rfl) (by kernel_rfl) ?_
      simp only [List.take_succ_cons, List.take_zero, List.drop_succ_cons, List.drop_zero]
      change wpStill _ _ w1.drew _ _ _
      repeat (first | still_step | (still_call K))
      refine wpStill_nil ?_
      change wpList _ _ _ _ _ w1.drew
      obtain ⟨V, hV⟩ : ∃ V, V = w1.drew := ⟨_, rfl⟩
      have HBV : Hid (Below g w V) := hide (by rw [hV]; exact HB.out.drew)
      rw [← hV] at HH ci fi ⊢
      clear K hV HB
      unfold uV at HH
      go_wp2_with fail
      have hw2 := HH.out
      have hBw2 : Below g w (V.setCell ⟨g, 0, none⟩ (Value.int IntKind.u64 ((rotB 32 t.a).toNat : Int))) := HBV.out.setCell (Nat.le_refl _) _
      generalize V.setCell ⟨g, 0, none⟩ (Value.int IntKind.u64 ((rotB 32 t.a).toNat : Int)) = w2 at hw2 hBw2 ⊢
      clear HH HBV ci fi
      generalize turn0 t = t at hw2 HN1
      go_wp2_with fail
      refine (step23_any w2 g (t) hw2).mono ?_
      rintro e w3 ⟨rfl, hw3, hbw3⟩
      have hBw3 := hBw2.trans hbw3
      clear hw2 hBw2 hbw3
      go_wp2_with fail
      refine (step03_any w3 g (step23 16 t) hw3).mono ?_
      rintro e w4 ⟨rfl, hw4, hbw4⟩
      have hBw4 := hBw3.trans hbw4
      clear hw3 hBw3 hbw4
      go_wp2_with fail
      refine (step21_any w4 g (step03 21 (step23 16 t)) hw4).mono ?_
      rintro e w5 ⟨rfl, hw5, hbw5⟩
      have hBw5 := hBw4.trans hbw5
      clear hw4 hBw4 hbw5
      generalize step21 17 (step03 21 (step23 16 t)) = t at hw5 HN1
      go_wp2_with fail
      have ci : w5.drew.cell? ⟨g, 2, none⟩ = some (.int .u64 (t.c.toNat : Int)) := hw5.c2
      have fi : w5.drew.frozen? ⟨g, 2, none⟩ = false := hw5.fr 2
      have H : StH (w5.drew.setCell ⟨g, 2, none⟩ (uV (rotB 32 t.c))) g 43 (turn2 t) := StH.set (w := w5.drew) hw5 2 _ rfl
      have K : Calls Try.prog 29 #[.int .u64 (t.c.toNat : Int), .int .i64 32] w5.drew fun e w'' => e = .returned (.int .u64 ((rotB 32 t.c).toNat : Int)) ∧ w'' = w5.drew := (rotl_any t.c 32 (by unfold Turn5; simp) w5.drew).mono fun _ _ h => ⟨h.1, h.2.symm⟩
      have HH := hide H
      have HB := hide hBw5
      clear H hw5 hBw5
      refine wp_region_still_tail 8 (by kernel_rfl) (by kernel_rfl) ?_
      simp only [List.take_succ_cons, List.take_zero, List.drop_succ_cons, List.drop_zero]
      change wpStill _ _ w5.drew _ _ _
      repeat (first | still_step | (still_call K))
      refine wpStill_nil ?_
      change wpList _ _ _ _ _ w5.drew
      obtain ⟨V, hV⟩ : ∃ V, V = w5.drew := ⟨_, rfl⟩
      have HBV : Hid (Below g w V) := hide (by rw [hV]; exact HB.out.drew)
      rw [← hV] at HH ci fi ⊢
      clear K hV HB
      unfold uV at HH
      go_wp2_with fail
      have hw6 := HH.out
      have hBw6 : Below g w (V.setCell ⟨g, 2, none⟩ (Value.int IntKind.u64 ((rotB 32 t.c).toNat : Int))) := HBV.out.setCell (Nat.le_refl _) _
      generalize V.setCell ⟨g, 2, none⟩ (Value.int IntKind.u64 ((rotB 32 t.c).toNat : Int)) = w6 at hw6 hBw6 ⊢
      clear HH HBV ci fi
      have HF : Hid (StH w6 g 43 (roundsS (k + 1) s)) := hide (by rw [HN1.out]; exact hw6)
      have HBF := hide hBw6
      clear hw6 hBw6 HN1
      go_wp2
      go_roundw
      case rel => exact ⟨k + 1, by omega, by go_num, HF, HBF⟩
      case measure => simp [intOf]; omega
    · obtain rfl : k = n := by omega
      clear hlt
      go_wp2
      go_end0
      exact ⟨rfl, hs.out, hb.out⟩
end Go.Proofs.Ytlcgciafclfoeaa

end
section
/-
  The walks of a word more and of bytes as a number, the program's; of Sip.
-/
namespace Go.Proofs.Ytlcgciafclfoeaa
open Go.RowKit
set_option linter.unusedVariables false

set_option maxHeartbeats 2000000 in
theorem take_any (w : World) (g : Nat) (s : Sip4) (m : BitVec 64) (h : StH w g 43 s) :
    Calls Try.prog 21 #[.pointer (some ⟨g, 0, none⟩), uV m] w fun e w' => e = .returned (.tuple #[]) ∧ StH w' g 43 (inS s m) ∧ Below g w w' := by
  have ci := h.c3
  have fi := h.fr 3
  have H : ∀ x, StH (w.setCell ⟨g, 3, none⟩ (uV x)).drew g 43 (⟨s.a, s.b, s.c, x⟩ : Sip4) := fun x => h.set 3 x rfl
  have HH := hide H
  clear h H
  unfold uV
  go_enter Try.func21, Try.ntmps21
  go_wp2
  go_still_tail 8, (by kernel_rfl)
  change wpList _ _ _ _ _ w.drew
  go_wp2_with fail
  rw [c_xor]
  have hW : StH (w.setCell ⟨g, 3, none⟩ (Value.int IntKind.u64 ((s.d ^^^ m).toNat : Int))).drew g 43 _ := HH.out _
  have hB : Below g w (w.setCell ⟨g, 3, none⟩ (Value.int IntKind.u64 ((s.d ^^^ m).toNat : Int))).drew := ((Below.refl g w).setCell (Nat.le_refl _) _).drew
  generalize (w.setCell ⟨g, 3, none⟩ (Value.int IntKind.u64 ((s.d ^^^ m).toNat : Int))).drew = W at hW hB ⊢
  clear ci fi HH
  refine (rounds_any W g 2 _ (by omega) hW).mono ?_
  rintro e W1 ⟨rfl, hW1, hb1⟩
  have hB1 := hB.trans hb1
  have HI : Hid (inS s m = (⟨(roundsS 2 (⟨s.a, s.b, s.c, s.d ^^^ m⟩ : Sip4)).a ^^^ m, (roundsS 2 (⟨s.a, s.b, s.c, s.d ^^^ m⟩ : Sip4)).b, (roundsS 2 (⟨s.a, s.b, s.c, s.d ^^^ m⟩ : Sip4)).c, (roundsS 2 (⟨s.a, s.b, s.c, s.d ^^^ m⟩ : Sip4)).d⟩ : Sip4)) := hide rfl
  clear hW hB hb1
  generalize roundsS 2 (⟨s.a, s.b, s.c, s.d ^^^ m⟩ : Sip4) = t at hW1 HI
  have ci := hW1.c0
  have fi := hW1.fr 0
  have H : ∀ x, StH (W1.setCell ⟨g, 0, none⟩ (uV x)).drew g 43 (⟨x, t.b, t.c, t.d⟩ : Sip4) := fun x => hW1.set 0 x rfl
  have HH := hide H
  have HB := hide hB1
  clear hW1 H hB1
  go_wp2_with fail
  go_still_tail 8, (by kernel_rfl)
  change wpList _ _ _ _ _ W1.drew
  go_wp2
  go_end0
  exact ⟨rfl, by rw [c_xor, HI.out]; exact HH.out _, (HB.out.setCell (Nat.le_refl _) _).drew⟩

theorem shl_cast (x : UInt8) (k : Nat) (hk : k < 8) : IntKind.u64.wrap ((x.toNat : Int) * 2 ^ (8 * k)) = ((BitVec.ofNat 64 x.toNat <<< (8 * k)).toNat : Int) := by
  have hx := x.toNat_lt
  rw [BitVec.toNat_shiftLeft, Nat.shiftLeft_eq, IntKind.wrap_u64, BitVec.toNat_ofNat]
  rw [Nat.mod_eq_of_lt (show x.toNat < 2 ^ 64 by omega)]
  simp

set_option maxHeartbeats 2000000 in
theorem word_any (A : Option Addr) (c : Nat) (l : List UInt8) (B : Nat) (w : World) (hl : l.length ≤ 8) (hb : Byt w B A l) :
    Calls Try.prog 22 #[.slice A l.length c] w fun e w' => e = .returned (uV (wordB l)) ∧ w = w' := by
  obtain ⟨n, hn⟩ : ∃ n, n = l.length := ⟨_, rfl⟩
  rw [← hn] at hl ⊢
  have hlen := hide hn
  clear hn
  go_enter Try.func22, Try.ntmps22
  go_wp2
  go_loop [3, 4, 5, 8] (fun m _ _ i => ∃ k : Nat, k ≤ n ∧ i = .int .i64 (k : Int) ∧ m = .int .u64 ((wordB (l.take k)).toNat : Int))
    (fun _ _ _ i => n - (intOf i).toNat)
  case atStart => exact ⟨0, by omega, rfl, rfl⟩
  case round =>
    obtain ⟨k, hk, rfl, rfl⟩ := hrel
    by_cases hlt : k < n
    · obtain ⟨b, off, rfl, hbB, hcell⟩ := hb (by have := hlen.out; omega)
      have hkl : k < l.length := by have := hlen.out; omega
      have ht := wordB_take hkl
      obtain ⟨x, hx0⟩ : ∃ x, x = l[k]'hkl := ⟨_, rfl⟩
      rw [← hx0] at ht
      have hx : x.toNat ≤ 255 := by have := x.toNat_lt; omega
      have hc0 : w.cell? ⟨b, off + k, none⟩ = some (.int .u8 (x.toNat : Int)) := by rw [hx0]; exact hcell k _
      have hk8 : k < 8 := by omega
      have HT := hide ht
      have HL := hide hkl
      generalize wordB (l.take k) = M at HT
      clear hcell hx0 ht hkl
      go_wp2
      go_round
      case rel => exact ⟨k + 1, by omega, by go_num, by rw [HT.out, ← c_or, ← shl_cast x k hk8]⟩
      case measure => simp [intOf]; omega
    · have hfin : wordB (l.take k) = wordB l := by rw [List.take_of_length_le (by have := hlen.out; omega)]
      rw [hfin]
      clear hfin
      go_wp2
      go_ret
      exact ⟨rfl, rfl⟩

theorem Byt.take {w : World} {B : Nat} {A : Option Addr} {l : List UInt8} (h : Byt w B A l) (k : Nat) : Byt w B A (l.take k) := fun hl => by
  rw [List.length_take] at hl
  obtain ⟨b, off, e, hb, hc⟩ := h (by omega)
  refine ⟨b, off, e, hb, fun i hi => ?_⟩
  rw [List.length_take] at hi
  rw [List.getElem_take]
  exact hc i (by omega)
theorem start_lit0 (k : BitVec 64) : bits .xor .u64 (k.toNat : Int) 8317987319222330741 = ((k ^^^ 8317987319222330741#64).toNat : Int) := c_xor k 8317987319222330741#64
theorem start_lit1 (k : BitVec 64) : bits .xor .u64 (k.toNat : Int) 7237128888997146477 = ((k ^^^ 7237128888997146477#64).toNat : Int) := c_xor k 7237128888997146477#64
theorem start_lit2 (k : BitVec 64) : bits .xor .u64 (k.toNat : Int) 7816392313619706465 = ((k ^^^ 7816392313619706465#64).toNat : Int) := c_xor k 7816392313619706465#64
theorem start_lit3 (k : BitVec 64) : bits .xor .u64 (k.toNat : Int) 8387220255154660723 = ((k ^^^ 8387220255154660723#64).toNat : Int) := c_xor k 8387220255154660723#64

def lenOfS : Value → Nat
  | .slice _ n _ => n
  | _ => 0

set_option maxHeartbeats 2000000 in
theorem sip_any (k0 k1 : BitVec 64) (A : Option Addr) (c : Nat) (l : List UInt8) (B : Nat) (w : World) (hl : l.length ≤ c) (hn47 : l.length ≤ 140737488355328) (hb : Byt w B A l) (hB : B ≤ w.heap.size) :
    Calls Try.prog 9 #[uV k0, uV k1, .slice A l.length c] w fun e w' => e = .returned (uV (sipB k0 k1 l)) ∧ Below w.heap.size w w' := by
  obtain ⟨n, hn⟩ : ∃ n, n = l.length := ⟨_, rfl⟩
  rw [← hn] at hl hn47 ⊢
  have hlen := hide hn
  clear hn
  unfold uV
  go_enter Try.func9, Try.ntmps9
  go_wp2
  rw [start_lit0, start_lit1, start_lit2, start_lit3]
  have hS0 : StH (w.alloc (.cells #[.int .u64 ((k0 ^^^ 8317987319222330741#64).toNat : Int), .int .u64 ((k1 ^^^ 7237128888997146477#64).toNat : Int), .int .u64 ((k0 ^^^ 7816392313619706465#64).toNat : Int), .int .u64 ((k1 ^^^ 8387220255154660723#64).toNat : Int)] 43)) w.heap.size 43 (startS k0 k1) := heap_alloc_new w _
  have hB0 : Below w.heap.size w (w.alloc (.cells #[.int .u64 ((k0 ^^^ 8317987319222330741#64).toNat : Int), .int .u64 ((k1 ^^^ 7237128888997146477#64).toNat : Int), .int .u64 ((k0 ^^^ 7816392313619706465#64).toNat : Int), .int .u64 ((k1 ^^^ 8387220255154660723#64).toNat : Int)] 43)) := (Below.refl _ _).alloc (Nat.le_refl _) _
  have HFIN : Hid (sipB k0 k1 l = sipEnd (bodyS (startS k0 k1) l).1 (bodyS (startS k0 k1) l).2 n) := hide (by rw [hlen.out]; rfl)
  generalize startS k0 k1 = s0 at hS0 HFIN
  generalize (w.alloc (.cells #[.int .u64 ((k0 ^^^ 8317987319222330741#64).toNat : Int), .int .u64 ((k1 ^^^ 7237128888997146477#64).toNat : Int), .int .u64 ((k0 ^^^ 7816392313619706465#64).toNat : Int), .int .u64 ((k1 ^^^ 8387220255154660723#64).toNat : Int)] 43)) = W0 at hS0 hB0 ⊢
  have HS0 := hide hS0
  have HB0 := hide hB0
  have HBY := hide (hb.below (hB0.mono hB))
  generalize (k0 ^^^ 8317987319222330741#64) = q0
  generalize (k1 ^^^ 7237128888997146477#64) = q1
  generalize (k0 ^^^ 7816392313619706465#64) = q2
  generalize (k1 ^^^ 8387220255154660723#64) = q3
  clear hS0 hB0 hb
  go_loopw [2] (fun v wr => ∃ (A' : Option Addr) (r : List UInt8) (c' m : Nat) (s : Sip4), m ≤ c' ∧ v = .slice A' m c' ∧ Hid (m = r.length) ∧ Hid (bodyS s r = bodyS s0 l) ∧ Hid (Byt wr B A' r) ∧ Hid (StH wr w.heap.size 43 s) ∧ Hid (Below w.heap.size w wr))
    (fun v _ => lenOfS v)
  case atStart => exact ⟨A, l, c, n, s0, hl, rfl, hlen, hide rfl, HBY, HS0, HB0⟩
  case round =>
    obtain ⟨A', r, c', m, s, hm, rfl, hmr, hbody, hby, hst, hbel⟩ := hrel
    clear HS0 HB0 HBY hl
    by_cases hlt : 8 ≤ m
    · have hT : Byt wr B A' (r.take 8) := hby.out.take 8
      have hlT : (r.take 8).length = 8 := by have := hmr.out; rw [List.length_take]; omega
      have hW := word_any A' c' (r.take 8) B wr (by omega) hT
      rw [hlT] at hW
      have hX := bodyS_more (s := s) (l := r) (by have := hmr.out; omega)
      rw [hbody.out] at hX
      have HX := hide hX.symm
      have HW := hide hW
      have hin : (8 : Int) ≤ (m : Int) := by omega
      clear hT hlT hW hX
      go_wp2_with fail
      refine HW.out.mono ?_
      rintro e w1 ⟨rfl, rfl⟩
      go_wp2_with fail
      refine (take_any wr w.heap.size s _ hst.out).mono ?_
      rintro e w1 ⟨rfl, hst1, hb1⟩
      have HS1 := hide hst1
      have HB1 := hide (hbel.out.trans hb1)
      have hby1 := hby.out.below (hb1.mono hB)
      have HL : Hid (m - 8 = (r.drop 8).length) := hide (by have := hmr.out; rw [List.length_drop]; omega)
      by_cases hcap : c' = 8
      · subst hcap
        have hm8 : m = 8 := by omega
        subst hm8
        have HY : Hid (Byt w1 B A' (r.drop 8)) := hide (by rw [List.length_eq_zero_iff.1 (show (r.drop 8).length = 0 by rw [← HL.out])]; exact Byt.nil _ _ _)
        clear hby1 hst1 hb1
        go_wp2
        go_roundw
        case rel => exact ⟨_, _, _, _, _, by omega, rfl, HL, HX, HY, HS1, HB1⟩
        case measure => simp [lenOfS]
      · have hcap2 : 8 < c' := by omega
        obtain ⟨b, off, rfl, hbB, -⟩ := hby.out (by have := hmr.out; omega)
        have HY : Hid (Byt w1 B (some ⟨b, off + 8, none⟩) (r.drop 8)) := hide (hby1.cut 8)
        clear hcap hby1 hst1 hb1
        go_wp2
        go_roundw
        case rel => exact ⟨_, _, _, _, _, by omega, rfl, HL, HX, HY, HS1, HB1⟩
        case measure => simp [lenOfS]; omega
    · have hX := bodyS_end (s := s) (l := r) (by have := hmr.out; omega)
      rw [hbody.out] at hX
      rw [hX] at HFIN
      have hmr' := hmr.out
      subst hmr'
      have HW := hide (word_any A' c' r B wr (by omega) hby.out)
      clear hX hbody
      go_wp2_with fail
      refine HW.out.mono ?_
      rintro e w1 ⟨rfl, rfl⟩
      unfold uV
      have HM : bits .or .u64 (IntKind.u64.wrap ((n : Int) * 72057594037927936)) ((wordB r).toNat : Int) = ((wordB r ||| (BitVec.ofNat 64 n <<< 56)).toNat : Int) := by
        have hnn : n < 2 ^ 64 := by omega
        have e : ((n : Int)) = ((BitVec.ofNat 64 n).toNat : Int) := by rw [BitVec.toNat_ofNat, Nat.mod_eq_of_lt hnn]
        rw [e, c_shl _ 56 _ (by decide), c_or, BitVec.or_comm]
      have HM' := hide HM
      clear HM
      go_wp2_with fail
      rw [HM'.out]
      refine (take_any wr w.heap.size s _ hst.out).mono ?_
      rintro e w1 ⟨rfl, hst1, hb1⟩
      have HB1 := hbel.out.trans hb1
      have HE : Hid (sipB k0 k1 l = ((roundsS 4 (⟨(inS s (wordB r ||| (BitVec.ofNat 64 n <<< 56))).a, (inS s (wordB r ||| (BitVec.ofNat 64 n <<< 56))).b, (inS s (wordB r ||| (BitVec.ofNat 64 n <<< 56))).c ^^^ 255#64, (inS s (wordB r ||| (BitVec.ofNat 64 n <<< 56))).d⟩ : Sip4)).a ^^^ (roundsS 4 (⟨(inS s (wordB r ||| (BitVec.ofNat 64 n <<< 56))).a, (inS s (wordB r ||| (BitVec.ofNat 64 n <<< 56))).b, (inS s (wordB r ||| (BitVec.ofNat 64 n <<< 56))).c ^^^ 255#64, (inS s (wordB r ||| (BitVec.ofNat 64 n <<< 56))).d⟩ : Sip4)).b ^^^ (roundsS 4 (⟨(inS s (wordB r ||| (BitVec.ofNat 64 n <<< 56))).a, (inS s (wordB r ||| (BitVec.ofNat 64 n <<< 56))).b, (inS s (wordB r ||| (BitVec.ofNat 64 n <<< 56))).c ^^^ 255#64, (inS s (wordB r ||| (BitVec.ofNat 64 n <<< 56))).d⟩ : Sip4)).c ^^^ (roundsS 4 (⟨(inS s (wordB r ||| (BitVec.ofNat 64 n <<< 56))).a, (inS s (wordB r ||| (BitVec.ofNat 64 n <<< 56))).b, (inS s (wordB r ||| (BitVec.ofNat 64 n <<< 56))).c ^^^ 255#64, (inS s (wordB r ||| (BitVec.ofNat 64 n <<< 56))).d⟩ : Sip4)).d)) := hide (by rw [HFIN.out]; rfl)
      clear HFIN HM' hst hb1 hbel HW
      generalize inS s (wordB r ||| (BitVec.ofNat 64 n <<< 56)) = t at hst1 HE
      have ci := hst1.c2
      have fi := hst1.fr 2
      have H : StH (w1.setCell ⟨w.heap.size, 2, none⟩ (uV (t.c ^^^ 255#64))) w.heap.size 43 (⟨t.a, t.b, t.c ^^^ 255#64, t.d⟩ : Sip4) := hst1.set 2 _ rfl
      have e255 : bits .xor .u64 (t.c.toNat : Int) 255 = ((t.c ^^^ 255#64).toNat : Int) := c_xor t.c 255#64
      have HH := hide H
      have HB2 := hide HB1
      have HX := hide e255
      clear H HB1 hst1 e255
      go_wp2_with fail
      rw [HX.out]
      have hB3 := HB2.out.setCell (p := ⟨w.heap.size, 2, none⟩) (Nat.le_refl _) (Value.int IntKind.u64 ((t.c ^^^ 255#64).toNat : Int))
      have hS3 : StH (w1.setCell ⟨w.heap.size, 2, none⟩ (Value.int IntKind.u64 ((t.c ^^^ 255#64).toNat : Int))) w.heap.size 43 (⟨t.a, t.b, t.c ^^^ 255#64, t.d⟩ : Sip4) := HH.out
      generalize w1.setCell ⟨w.heap.size, 2, none⟩ (Value.int IntKind.u64 ((t.c ^^^ 255#64).toNat : Int)) = w3 at hB3 hS3 ⊢
      clear HH HB2 HX ci fi
      refine (rounds_any w3 w.heap.size 4 _ (by omega) hS3).mono ?_
      rintro e w4 ⟨rfl, hS4, hb4⟩
      have HB4 := hide (hB3.trans hb4)
      generalize roundsS 4 (⟨t.a, t.b, t.c ^^^ 255#64, t.d⟩ : Sip4) = u at hS4 HE
      have c0 := hS4.c0
      have c1 := hS4.c1
      have c2 := hS4.c2
      have c3 := hS4.c3
      clear hB3 hS3 hb4 hS4
      go_wp2
      go_ret
      exact ⟨ret_int (by rw [c_xor, c_xor, c_xor, HE.out]), HB4.out⟩
end Go.Proofs.Ytlcgciafclfoeaa

end
section
/-
  The walk of the document's own round.
-/
namespace Go.Proofs.Ytlcgciafclfoeaa
open Go.RowKit
set_option linter.unusedVariables false

theorem turnL_any (x : BitVec 64) (k : Nat) (K : Int) (hK : K = (k : Int)) (hk : Turn5 k) (w : World) :
    Calls Try.prog 30 #[.int .u64 (x.toNat : Int), .int .u64 K] w fun e w' => e = .returned (.int .u64 ((rotB k x).toNat : Int)) ∧ w = w' := by
  subst hK; exact turnk_any x k hk w
theorem StH.other {w : World} {g : Nat} {t : TypeId} {s : Sip4} (h : StH w g t s) (a : Addr) (v : Value) (hne : g ≠ a.block) : StH (w.setCell a v) g t s := (Below.heap_setCell w a v g hne).trans h

set_option maxHeartbeats 4000000 in
theorem refsround_any (w : World) (a0 b0 c0 d0 : BitVec 64) :
    Calls Try.prog 25 #[.agg (⟨a0, b0, c0, d0⟩ : Sip4).vals] w fun e w' => e = .returned (.agg (roundS ⟨a0, b0, c0, d0⟩).vals) ∧ Below w.heap.size w w' := by
  unfold Sip4.vals uV
  go_enter Try.func25, Try.ntmps25
  go_wp2_with fail
  rw [c_add]

  obtain ⟨a1, ea1⟩ : ∃ x, x = a0 + b0 := ⟨_, rfl⟩
  rw [← ea1]
  have Ea1 := hide ea1
  clear ea1
  have hSW0 : StH ((w.alloc (.cells (⟨a1, b0, c0, d0⟩ : Sip4).vals 49)).alloc (.cells #[.int .u64 0, .int .u64 0, .int .u64 0, .int .u64 0] 49)) w.heap.size 49 ⟨a1, b0, c0, d0⟩ := (Below.heap_alloc _ _ _ (by simp)).trans (heap_alloc_new w _)
  have hRW0 : StH ((w.alloc (.cells (⟨a1, b0, c0, d0⟩ : Sip4).vals 49)).alloc (.cells #[.int .u64 0, .int .u64 0, .int .u64 0, .int .u64 0] 49)) (w.heap.size + 1) 49 ⟨0#64, 0#64, 0#64, 0#64⟩ := by
    have h := heap_alloc_new (w.alloc (.cells (⟨a1, b0, c0, d0⟩ : Sip4).vals 49)) (.cells #[.int .u64 0, .int .u64 0, .int .u64 0, .int .u64 0] 49)
    have e : (w.alloc (.cells (⟨a1, b0, c0, d0⟩ : Sip4).vals 49)).heap.size = w.heap.size + 1 := by simp
    rw [e] at h
    exact h
  have hBW0 : Below w.heap.size w ((w.alloc (.cells (⟨a1, b0, c0, d0⟩ : Sip4).vals 49)).alloc (.cells #[.int .u64 0, .int .u64 0, .int .u64 0, .int .u64 0] 49)) := ((Below.refl _ _).alloc (Nat.le_refl _) _).alloc (by simp) _
  unfold Sip4.vals uV at hSW0 hRW0 hBW0
  simp only [] at hSW0 hRW0 hBW0
  generalize ((w.alloc (.cells #[.int .u64 (a1.toNat : Int), .int .u64 (b0.toNat : Int), .int .u64 (c0.toNat : Int), .int .u64 (d0.toNat : Int)] 49)).alloc (.cells #[.int .u64 0, .int .u64 0, .int .u64 0, .int .u64 0] 49)) = W0 at hSW0 hRW0 hBW0 ⊢
  have k1 : W0.drew.cell? ⟨w.heap.size, 1, none⟩ = some (.int .u64 (b0.toNat : Int)) := hSW0.c1
  have k0 : W0.drew.cell? ⟨w.heap.size, 0, none⟩ = some (.int .u64 (a1.toNat : Int)) := hSW0.c0
  have f1 : W0.drew.frozen? ⟨w.heap.size, 1, none⟩ = false := hSW0.fr 1
  have K : Calls Try.prog 30 #[.int .u64 (b0.toNat : Int), .int .u64 13] W0.drew fun e w'' => e = .returned (.int .u64 ((rotB 13 b0).toNat : Int)) ∧ w'' = W0.drew := (turnk_any b0 13 (by unfold Turn5; simp) W0.drew).mono fun _ _ h => ⟨h.1, h.2.symm⟩
  refine wp_region_still_tail 7 (by kernel_rfl) (by kernel_rfl) ?_
  simp only [List.take_succ_cons, List.take_zero, List.drop_succ_cons, List.drop_zero]
  change wpStill _ _ W0.drew _ _ _
  repeat (first | still_step | (still_call K))
  refine wpStill_nil ?_
  change wpList _ _ _ _ _ W0.drew
  rw [c_xor]
  clear K
  clear f1 k0 k1
  obtain ⟨W1, hW1⟩ : ∃ V, V = W0.drew := ⟨_, rfl⟩
  have hSW1 : StH W1 w.heap.size 49 (⟨a1, b0, c0, d0⟩ : Sip4) := by rw [hW1]; exact hSW0
  have hBW1 : Below w.heap.size w W1 := by rw [hW1]; exact hBW0.drew
  have hRW1 : StH W1 (w.heap.size + 1) 49 ⟨0#64, 0#64, 0#64, 0#64⟩ := by rw [hW1]; exact hRW0
  rw [← hW1]
  clear hW1 hSW0 hBW0 hRW0
  obtain ⟨b1, eb1⟩ : ∃ x, x = rotB 13 b0 ^^^ a1 := ⟨_, rfl⟩
  rw [← eb1]
  have Eb1 := hide eb1
  clear eb1
  have k1 : W1.cell? ⟨w.heap.size, 1, none⟩ = some (.int .u64 (b0.toNat : Int)) := hSW1.c1
  have k0 : W1.cell? ⟨w.heap.size, 0, none⟩ = some (.int .u64 (a1.toNat : Int)) := hSW1.c0
  have f1 : W1.frozen? ⟨w.heap.size, 1, none⟩ = false := hSW1.fr 1
  go_wp2_with fail
  have hSW2 : StH (World.setCell W1 ⟨w.heap.size, 1, none⟩ (Value.int IntKind.u64 (b1.toNat : Int))) w.heap.size 49 (⟨a1, b1, c0, d0⟩ : Sip4) := (StH.set (s' := (⟨a1, b1, c0, d0⟩ : Sip4)) hSW1 1 b1 rfl)
  have hBW2 : Below w.heap.size w (World.setCell W1 ⟨w.heap.size, 1, none⟩ (Value.int IntKind.u64 (b1.toNat : Int))) := (Below.setCell hBW1 (p := ⟨w.heap.size, 1, none⟩) (Nat.le_refl _) _)
  have hRW2 : StH (World.setCell W1 ⟨w.heap.size, 1, none⟩ (Value.int IntKind.u64 (b1.toNat : Int))) (w.heap.size + 1) 49 ⟨0#64, 0#64, 0#64, 0#64⟩ := (StH.other hRW1 ⟨w.heap.size, 1, none⟩ _ (by simp))
  generalize (World.setCell W1 ⟨w.heap.size, 1, none⟩ (Value.int IntKind.u64 (b1.toNat : Int))) = W2 at hSW2 hBW2 hRW2 ⊢
  clear hSW1 hBW1 hRW1
  clear f1 k0 k1
  refine (turnL_any a1 32 32 rfl (by unfold Turn5; simp) _).mono ?_
  rintro e w' ⟨rfl, rfl⟩
  obtain ⟨a2, ea2⟩ : ∃ x, x = rotB 32 a1 := ⟨_, rfl⟩
  rw [← ea2]
  have Ea2 := hide ea2
  clear ea2
  have k2 : W2.cell? ⟨w.heap.size, 2, none⟩ = some (.int .u64 (c0.toNat : Int)) := hSW2.c2
  have k3 : W2.cell? ⟨w.heap.size, 3, none⟩ = some (.int .u64 (d0.toNat : Int)) := hSW2.c3
  have f2 : W2.frozen? ⟨w.heap.size, 2, none⟩ = false := hSW2.fr 2
  have f0 : W2.frozen? ⟨w.heap.size, 0, none⟩ = false := hSW2.fr 0
  have k0 : W2.cell? ⟨w.heap.size, 0, none⟩ = some (.int .u64 (a1.toNat : Int)) := hSW2.c0
  go_wp2_with fail
  rw [c_add]
  obtain ⟨c1, ec1⟩ : ∃ x, x = c0 + d0 := ⟨_, rfl⟩
  rw [← ec1]
  have Ec1 := hide ec1
  clear ec1
  have hSW3 : StH (World.setCell (World.setCell W2 ⟨w.heap.size, 0, none⟩ (Value.int IntKind.u64 (a2.toNat : Int))) ⟨w.heap.size, 2, none⟩ (Value.int IntKind.u64 (c1.toNat : Int))) w.heap.size 49 (⟨a2, b1, c1, d0⟩ : Sip4) := (StH.set (s' := (⟨a2, b1, c1, d0⟩ : Sip4)) (StH.set (s' := (⟨a2, b1, c0, d0⟩ : Sip4)) hSW2 0 a2 rfl) 2 c1 rfl)
  have hBW3 : Below w.heap.size w (World.setCell (World.setCell W2 ⟨w.heap.size, 0, none⟩ (Value.int IntKind.u64 (a2.toNat : Int))) ⟨w.heap.size, 2, none⟩ (Value.int IntKind.u64 (c1.toNat : Int))) := (Below.setCell (Below.setCell hBW2 (p := ⟨w.heap.size, 0, none⟩) (Nat.le_refl _) _) (p := ⟨w.heap.size, 2, none⟩) (Nat.le_refl _) _)
  have hRW3 : StH (World.setCell (World.setCell W2 ⟨w.heap.size, 0, none⟩ (Value.int IntKind.u64 (a2.toNat : Int))) ⟨w.heap.size, 2, none⟩ (Value.int IntKind.u64 (c1.toNat : Int))) (w.heap.size + 1) 49 ⟨0#64, 0#64, 0#64, 0#64⟩ := (StH.other (StH.other hRW2 ⟨w.heap.size, 0, none⟩ _ (by simp)) ⟨w.heap.size, 2, none⟩ _ (by simp))
  generalize (World.setCell (World.setCell W2 ⟨w.heap.size, 0, none⟩ (Value.int IntKind.u64 (a2.toNat : Int))) ⟨w.heap.size, 2, none⟩ (Value.int IntKind.u64 (c1.toNat : Int))) = W3 at hSW3 hBW3 hRW3 ⊢
  clear hSW2 hBW2 hRW2
  clear f0 f2 k0 k2 k3
  have k3 : W3.drew.cell? ⟨w.heap.size, 3, none⟩ = some (.int .u64 (d0.toNat : Int)) := hSW3.c3
  have k2 : W3.drew.cell? ⟨w.heap.size, 2, none⟩ = some (.int .u64 (c1.toNat : Int)) := hSW3.c2
  have f3 : W3.drew.frozen? ⟨w.heap.size, 3, none⟩ = false := hSW3.fr 3
  have K : Calls Try.prog 30 #[.int .u64 (d0.toNat : Int), .int .u64 16] W3.drew fun e w'' => e = .returned (.int .u64 ((rotB 16 d0).toNat : Int)) ∧ w'' = W3.drew := (turnk_any d0 16 (by unfold Turn5; simp) W3.drew).mono fun _ _ h => ⟨h.1, h.2.symm⟩
  refine wp_region_still_tail 7 (by kernel_rfl) (by kernel_rfl) ?_
  simp only [List.take_succ_cons, List.take_zero, List.drop_succ_cons, List.drop_zero]
  change wpStill _ _ W3.drew _ _ _
  repeat (first | still_step | (still_call K))
  refine wpStill_nil ?_
  change wpList _ _ _ _ _ W3.drew
  rw [c_xor]
  clear K
  clear f3 k2 k3
  obtain ⟨W4, hW4⟩ : ∃ V, V = W3.drew := ⟨_, rfl⟩
  have hSW4 : StH W4 w.heap.size 49 (⟨a2, b1, c1, d0⟩ : Sip4) := by rw [hW4]; exact hSW3
  have hBW4 : Below w.heap.size w W4 := by rw [hW4]; exact hBW3.drew
  have hRW4 : StH W4 (w.heap.size + 1) 49 ⟨0#64, 0#64, 0#64, 0#64⟩ := by rw [hW4]; exact hRW3
  rw [← hW4]
  clear hW4 hSW3 hBW3 hRW3
  obtain ⟨d1, ed1⟩ : ∃ x, x = rotB 16 d0 ^^^ c1 := ⟨_, rfl⟩
  rw [← ed1]
  have Ed1 := hide ed1
  clear ed1
  have k0 : W4.cell? ⟨w.heap.size, 0, none⟩ = some (.int .u64 (a2.toNat : Int)) := hSW4.c0
  have k3 : W4.cell? ⟨w.heap.size, 3, none⟩ = some (.int .u64 (d0.toNat : Int)) := hSW4.c3
  have f0 : W4.frozen? ⟨w.heap.size, 0, none⟩ = false := hSW4.fr 0
  have f3 : W4.frozen? ⟨w.heap.size, 3, none⟩ = false := hSW4.fr 3
  go_wp2_with fail
  rw [c_add]
  obtain ⟨a3, ea3⟩ : ∃ x, x = a2 + d1 := ⟨_, rfl⟩
  rw [← ea3]
  have Ea3 := hide ea3
  clear ea3
  have hSW5 : StH (World.setCell (World.setCell W4 ⟨w.heap.size, 3, none⟩ (Value.int IntKind.u64 (d1.toNat : Int))) ⟨w.heap.size, 0, none⟩ (Value.int IntKind.u64 (a3.toNat : Int))) w.heap.size 49 (⟨a3, b1, c1, d1⟩ : Sip4) := (StH.set (s' := (⟨a3, b1, c1, d1⟩ : Sip4)) (StH.set (s' := (⟨a2, b1, c1, d1⟩ : Sip4)) hSW4 3 d1 rfl) 0 a3 rfl)
  have hBW5 : Below w.heap.size w (World.setCell (World.setCell W4 ⟨w.heap.size, 3, none⟩ (Value.int IntKind.u64 (d1.toNat : Int))) ⟨w.heap.size, 0, none⟩ (Value.int IntKind.u64 (a3.toNat : Int))) := (Below.setCell (Below.setCell hBW4 (p := ⟨w.heap.size, 3, none⟩) (Nat.le_refl _) _) (p := ⟨w.heap.size, 0, none⟩) (Nat.le_refl _) _)
  have hRW5 : StH (World.setCell (World.setCell W4 ⟨w.heap.size, 3, none⟩ (Value.int IntKind.u64 (d1.toNat : Int))) ⟨w.heap.size, 0, none⟩ (Value.int IntKind.u64 (a3.toNat : Int))) (w.heap.size + 1) 49 ⟨0#64, 0#64, 0#64, 0#64⟩ := (StH.other (StH.other hRW4 ⟨w.heap.size, 3, none⟩ _ (by simp)) ⟨w.heap.size, 0, none⟩ _ (by simp))
  generalize (World.setCell (World.setCell W4 ⟨w.heap.size, 3, none⟩ (Value.int IntKind.u64 (d1.toNat : Int))) ⟨w.heap.size, 0, none⟩ (Value.int IntKind.u64 (a3.toNat : Int))) = W5 at hSW5 hBW5 hRW5 ⊢
  clear hSW4 hBW4 hRW4
  clear f0 f3 k0 k3
  have k3 : W5.drew.cell? ⟨w.heap.size, 3, none⟩ = some (.int .u64 (d1.toNat : Int)) := hSW5.c3
  have k0 : W5.drew.cell? ⟨w.heap.size, 0, none⟩ = some (.int .u64 (a3.toNat : Int)) := hSW5.c0
  have f3 : W5.drew.frozen? ⟨w.heap.size, 3, none⟩ = false := hSW5.fr 3
  have K : Calls Try.prog 30 #[.int .u64 (d1.toNat : Int), .int .u64 21] W5.drew fun e w'' => e = .returned (.int .u64 ((rotB 21 d1).toNat : Int)) ∧ w'' = W5.drew := (turnk_any d1 21 (by unfold Turn5; simp) W5.drew).mono fun _ _ h => ⟨h.1, h.2.symm⟩
  refine wp_region_still_tail 7 (by kernel_rfl) (by kernel_rfl) ?_
  simp only [List.take_succ_cons, List.take_zero, List.drop_succ_cons, List.drop_zero]
  change wpStill _ _ W5.drew _ _ _
  repeat (first | still_step | (still_call K))
  refine wpStill_nil ?_
  change wpList _ _ _ _ _ W5.drew
  rw [c_xor]
  clear K
  clear f3 k0 k3
  obtain ⟨W6, hW6⟩ : ∃ V, V = W5.drew := ⟨_, rfl⟩
  have hSW6 : StH W6 w.heap.size 49 (⟨a3, b1, c1, d1⟩ : Sip4) := by rw [hW6]; exact hSW5
  have hBW6 : Below w.heap.size w W6 := by rw [hW6]; exact hBW5.drew
  have hRW6 : StH W6 (w.heap.size + 1) 49 ⟨0#64, 0#64, 0#64, 0#64⟩ := by rw [hW6]; exact hRW5
  rw [← hW6]
  clear hW6 hSW5 hBW5 hRW5
  obtain ⟨d2, ed2⟩ : ∃ x, x = rotB 21 d1 ^^^ a3 := ⟨_, rfl⟩
  rw [← ed2]
  have Ed2 := hide ed2
  clear ed2
  have k1 : W6.cell? ⟨w.heap.size, 1, none⟩ = some (.int .u64 (b1.toNat : Int)) := hSW6.c1
  have k2 : W6.cell? ⟨w.heap.size, 2, none⟩ = some (.int .u64 (c1.toNat : Int)) := hSW6.c2
  have k3 : W6.cell? ⟨w.heap.size, 3, none⟩ = some (.int .u64 (d1.toNat : Int)) := hSW6.c3
  have f2 : W6.frozen? ⟨w.heap.size, 2, none⟩ = false := hSW6.fr 2
  have f3 : W6.frozen? ⟨w.heap.size, 3, none⟩ = false := hSW6.fr 3
  go_wp2_with fail
  rw [c_add]
  obtain ⟨c2, ec2⟩ : ∃ x, x = c1 + b1 := ⟨_, rfl⟩
  rw [← ec2]
  have Ec2 := hide ec2
  clear ec2
  have hSW7 : StH (World.setCell (World.setCell W6 ⟨w.heap.size, 3, none⟩ (Value.int IntKind.u64 (d2.toNat : Int))) ⟨w.heap.size, 2, none⟩ (Value.int IntKind.u64 (c2.toNat : Int))) w.heap.size 49 (⟨a3, b1, c2, d2⟩ : Sip4) := (StH.set (s' := (⟨a3, b1, c2, d2⟩ : Sip4)) (StH.set (s' := (⟨a3, b1, c1, d2⟩ : Sip4)) hSW6 3 d2 rfl) 2 c2 rfl)
  have hBW7 : Below w.heap.size w (World.setCell (World.setCell W6 ⟨w.heap.size, 3, none⟩ (Value.int IntKind.u64 (d2.toNat : Int))) ⟨w.heap.size, 2, none⟩ (Value.int IntKind.u64 (c2.toNat : Int))) := (Below.setCell (Below.setCell hBW6 (p := ⟨w.heap.size, 3, none⟩) (Nat.le_refl _) _) (p := ⟨w.heap.size, 2, none⟩) (Nat.le_refl _) _)
  have hRW7 : StH (World.setCell (World.setCell W6 ⟨w.heap.size, 3, none⟩ (Value.int IntKind.u64 (d2.toNat : Int))) ⟨w.heap.size, 2, none⟩ (Value.int IntKind.u64 (c2.toNat : Int))) (w.heap.size + 1) 49 ⟨0#64, 0#64, 0#64, 0#64⟩ := (StH.other (StH.other hRW6 ⟨w.heap.size, 3, none⟩ _ (by simp)) ⟨w.heap.size, 2, none⟩ _ (by simp))
  generalize (World.setCell (World.setCell W6 ⟨w.heap.size, 3, none⟩ (Value.int IntKind.u64 (d2.toNat : Int))) ⟨w.heap.size, 2, none⟩ (Value.int IntKind.u64 (c2.toNat : Int))) = W7 at hSW7 hBW7 hRW7 ⊢
  clear hSW6 hBW6 hRW6
  clear f2 f3 k1 k2 k3
  have k1 : W7.drew.cell? ⟨w.heap.size, 1, none⟩ = some (.int .u64 (b1.toNat : Int)) := hSW7.c1
  have k2 : W7.drew.cell? ⟨w.heap.size, 2, none⟩ = some (.int .u64 (c2.toNat : Int)) := hSW7.c2
  have f1 : W7.drew.frozen? ⟨w.heap.size, 1, none⟩ = false := hSW7.fr 1
  have K : Calls Try.prog 30 #[.int .u64 (b1.toNat : Int), .int .u64 17] W7.drew fun e w'' => e = .returned (.int .u64 ((rotB 17 b1).toNat : Int)) ∧ w'' = W7.drew := (turnk_any b1 17 (by unfold Turn5; simp) W7.drew).mono fun _ _ h => ⟨h.1, h.2.symm⟩
  refine wp_region_still_tail 7 (by kernel_rfl) (by kernel_rfl) ?_
  simp only [List.take_succ_cons, List.take_zero, List.drop_succ_cons, List.drop_zero]
  change wpStill _ _ W7.drew _ _ _
  repeat (first | still_step | (still_call K))
  refine wpStill_nil ?_
  change wpList _ _ _ _ _ W7.drew
  rw [c_xor]
  clear K
  clear f1 k1 k2
  obtain ⟨W8, hW8⟩ : ∃ V, V = W7.drew := ⟨_, rfl⟩
  have hSW8 : StH W8 w.heap.size 49 (⟨a3, b1, c2, d2⟩ : Sip4) := by rw [hW8]; exact hSW7
  have hBW8 : Below w.heap.size w W8 := by rw [hW8]; exact hBW7.drew
  have hRW8 : StH W8 (w.heap.size + 1) 49 ⟨0#64, 0#64, 0#64, 0#64⟩ := by rw [hW8]; exact hRW7
  rw [← hW8]
  clear hW8 hSW7 hBW7 hRW7
  obtain ⟨b2, eb2⟩ : ∃ x, x = rotB 17 b1 ^^^ c2 := ⟨_, rfl⟩
  rw [← eb2]
  have Eb2 := hide eb2
  clear eb2
  have k1 : W8.cell? ⟨w.heap.size, 1, none⟩ = some (.int .u64 (b1.toNat : Int)) := hSW8.c1
  have k2 : W8.cell? ⟨w.heap.size, 2, none⟩ = some (.int .u64 (c2.toNat : Int)) := hSW8.c2
  have f1 : W8.frozen? ⟨w.heap.size, 1, none⟩ = false := hSW8.fr 1
  go_wp2_with fail
  have hSW9 : StH (World.setCell W8 ⟨w.heap.size, 1, none⟩ (Value.int IntKind.u64 (b2.toNat : Int))) w.heap.size 49 (⟨a3, b2, c2, d2⟩ : Sip4) := (StH.set (s' := (⟨a3, b2, c2, d2⟩ : Sip4)) hSW8 1 b2 rfl)
  have hBW9 : Below w.heap.size w (World.setCell W8 ⟨w.heap.size, 1, none⟩ (Value.int IntKind.u64 (b2.toNat : Int))) := (Below.setCell hBW8 (p := ⟨w.heap.size, 1, none⟩) (Nat.le_refl _) _)
  have hRW9 : StH (World.setCell W8 ⟨w.heap.size, 1, none⟩ (Value.int IntKind.u64 (b2.toNat : Int))) (w.heap.size + 1) 49 ⟨0#64, 0#64, 0#64, 0#64⟩ := (StH.other hRW8 ⟨w.heap.size, 1, none⟩ _ (by simp))
  generalize (World.setCell W8 ⟨w.heap.size, 1, none⟩ (Value.int IntKind.u64 (b2.toNat : Int))) = W9 at hSW9 hBW9 hRW9 ⊢
  clear hSW8 hBW8 hRW8
  clear f1 k1 k2
  refine (turnL_any c2 32 32 rfl (by unfold Turn5; simp) _).mono ?_
  rintro e w' ⟨rfl, rfl⟩
  obtain ⟨c3, ec3⟩ : ∃ x, x = rotB 32 c2 := ⟨_, rfl⟩
  rw [← ec3]
  have Ec3 := hide ec3
  clear ec3
  have k0 : W9.cell? ⟨w.heap.size, 0, none⟩ = some (.int .u64 (a3.toNat : Int)) := hSW9.c0
  have k1 : W9.cell? ⟨w.heap.size, 1, none⟩ = some (.int .u64 (b2.toNat : Int)) := hSW9.c1
  have k2 : W9.cell? ⟨w.heap.size, 2, none⟩ = some (.int .u64 (c2.toNat : Int)) := hSW9.c2
  have k3 : W9.cell? ⟨w.heap.size, 3, none⟩ = some (.int .u64 (d2.toNat : Int)) := hSW9.c3
  have f0 : W9.frozen? ⟨w.heap.size, 0, none⟩ = false := hSW9.fr 0
  have f1 : W9.frozen? ⟨w.heap.size, 1, none⟩ = false := hSW9.fr 1
  have f2 : W9.frozen? ⟨w.heap.size, 2, none⟩ = false := hSW9.fr 2
  have f3 : W9.frozen? ⟨w.heap.size, 3, none⟩ = false := hSW9.fr 3
  have r0 : W9.cell? ⟨w.heap.size + 1, 0, none⟩ = some (.int .u64 0) := hRW9.c0
  have q0 : W9.frozen? ⟨w.heap.size + 1, 0, none⟩ = false := hRW9.fr 0
  have r1 : W9.cell? ⟨w.heap.size + 1, 1, none⟩ = some (.int .u64 0) := hRW9.c1
  have q1 : W9.frozen? ⟨w.heap.size + 1, 1, none⟩ = false := hRW9.fr 1
  have r2 : W9.cell? ⟨w.heap.size + 1, 2, none⟩ = some (.int .u64 0) := hRW9.c2
  have q2 : W9.frozen? ⟨w.heap.size + 1, 2, none⟩ = false := hRW9.fr 2
  have r3 : W9.cell? ⟨w.heap.size + 1, 3, none⟩ = some (.int .u64 0) := hRW9.c3
  have q3 : W9.frozen? ⟨w.heap.size + 1, 3, none⟩ = false := hRW9.fr 3
  have HR : Hid (roundS ⟨a0, b0, c0, d0⟩ = (⟨a3, b2, c3, d2⟩ : Sip4)) := hide (by have e := Ec3.out; subst e; have e := Eb2.out; subst e; have e := Ec2.out; subst e; have e := Ed2.out; subst e; have e := Ea3.out; subst e; have e := Ed1.out; subst e; have e := Ec1.out; subst e; have e := Ea2.out; subst e; have e := Eb1.out; subst e; have e := Ea1.out; subst e; rfl)
  go_wp2_with fail
  have hF : StH (World.setCell (World.setCell (World.setCell (World.setCell (W9.setCell ⟨w.heap.size, 2, none⟩ (Value.int IntKind.u64 (c3.toNat : Int))) ⟨w.heap.size + 1, 0, none⟩ (Value.int IntKind.u64 (a3.toNat : Int))) ⟨w.heap.size + 1, 1, none⟩ (Value.int IntKind.u64 (b2.toNat : Int))) ⟨w.heap.size + 1, 2, none⟩ (Value.int IntKind.u64 (c3.toNat : Int))) ⟨w.heap.size + 1, 3, none⟩ (Value.int IntKind.u64 (d2.toNat : Int))) (w.heap.size + 1) 49 (⟨a3, b2, c3, d2⟩ : Sip4) := (StH.set (s' := (⟨a3, b2, c3, d2⟩ : Sip4)) (StH.set (s' := (⟨a3, b2, c3, 0#64⟩ : Sip4)) (StH.set (s' := (⟨a3, b2, 0#64, 0#64⟩ : Sip4)) (StH.set (s' := (⟨a3, 0#64, 0#64, 0#64⟩ : Sip4)) (StH.other hRW9 ⟨w.heap.size, 2, none⟩ (uV c3) (by simp)) 0 a3 rfl) 1 b2 rfl) 2 c3 rfl) 3 d2 rfl)
  have hBF : Below w.heap.size w (World.setCell (World.setCell (World.setCell (World.setCell (W9.setCell ⟨w.heap.size, 2, none⟩ (Value.int IntKind.u64 (c3.toNat : Int))) ⟨w.heap.size + 1, 0, none⟩ (Value.int IntKind.u64 (a3.toNat : Int))) ⟨w.heap.size + 1, 1, none⟩ (Value.int IntKind.u64 (b2.toNat : Int))) ⟨w.heap.size + 1, 2, none⟩ (Value.int IntKind.u64 (c3.toNat : Int))) ⟨w.heap.size + 1, 3, none⟩ (Value.int IntKind.u64 (d2.toNat : Int))) := (Below.setCell (Below.setCell (Below.setCell (Below.setCell (Below.setCell hBW9 (p := ⟨w.heap.size, 2, none⟩) (Nat.le_refl _) _) (p := ⟨w.heap.size + 1, 0, none⟩) (by simp) _) (p := ⟨w.heap.size + 1, 1, none⟩) (by simp) _) (p := ⟨w.heap.size + 1, 2, none⟩) (by simp) _) (p := ⟨w.heap.size + 1, 3, none⟩) (by simp) _)
  generalize (World.setCell (World.setCell (World.setCell (World.setCell (W9.setCell ⟨w.heap.size, 2, none⟩ (Value.int IntKind.u64 (c3.toNat : Int))) ⟨w.heap.size + 1, 0, none⟩ (Value.int IntKind.u64 (a3.toNat : Int))) ⟨w.heap.size + 1, 1, none⟩ (Value.int IntKind.u64 (b2.toNat : Int))) ⟨w.heap.size + 1, 2, none⟩ (Value.int IntKind.u64 (c3.toNat : Int))) ⟨w.heap.size + 1, 3, none⟩ (Value.int IntKind.u64 (d2.toNat : Int))) = WF at hF hBF ⊢
  have z0 := hF.c0
  have z1 := hF.c1
  have z2 := hF.c2
  have z3 := hF.c3
  refine bodyPost_ret (v := .agg (⟨a3, b2, c3, d2⟩ : Sip4).vals) (by simp [results, Try.results25, go_sem, z0, z1, z2, z3, Sip4.vals, uV]) rfl ⟨?_, hBF⟩
  rw [HR.out]; rfl
end Go.Proofs.Ytlcgciafclfoeaa

end
section
/-
  The walks of the document's own 'in' and Sip.
-/
namespace Go.Proofs.Ytlcgciafclfoeaa
open Go.RowKit
set_option linter.unusedVariables false

/-- four numbers and the place of what is to come of them, in two new blocks. -/
def Two4 (w : World) (g : Nat) (t : TypeId) (s : Sip4) (W : World) : Prop := StH W g t s ∧ StH W (g + 1) t ⟨0#64, 0#64, 0#64, 0#64⟩ ∧ Below g w W ∧ W.heap.size = g + 2
theorem two4_new (w : World) (a b c d : BitVec 64) (t : TypeId) : Two4 w w.heap.size t ⟨a, b, c, d⟩ ((w.alloc (.cells #[.int .u64 (a.toNat : Int), .int .u64 (b.toNat : Int), .int .u64 (c.toNat : Int), .int .u64 (d.toNat : Int)] t)).alloc (.cells #[.int .u64 0, .int .u64 0, .int .u64 0, .int .u64 0] t)) := by
  refine ⟨(Below.heap_alloc _ _ _ (by simp)).trans (heap_alloc_new w _), ?_, ((Below.refl _ _).alloc (Nat.le_refl _) _).alloc (by simp) _, by simp⟩
  have h := heap_alloc_new (w.alloc (.cells #[.int .u64 (a.toNat : Int), .int .u64 (b.toNat : Int), .int .u64 (c.toNat : Int), .int .u64 (d.toNat : Int)] t)) (.cells #[.int .u64 0, .int .u64 0, .int .u64 0, .int .u64 0] t)
  have e : (w.alloc (.cells #[.int .u64 (a.toNat : Int), .int .u64 (b.toNat : Int), .int .u64 (c.toNat : Int), .int .u64 (d.toNat : Int)] t)).heap.size = w.heap.size + 1 := by simp
  rw [e] at h
  exact h
theorem Two4.call {w W W' : World} {g : Nat} {t : TypeId} {s : Sip4} (h : Two4 w g t s W) (hb : Below W.heap.size W W') : StH W' g t s ∧ StH W' (g + 1) t ⟨0#64, 0#64, 0#64, 0#64⟩ ∧ Below g w W' :=
  ⟨(hb.block g (by have := h.2.2.2; omega)).trans h.1, (hb.block (g + 1) (by have := h.2.2.2; omega)).trans h.2.1, h.2.2.1.trans (hb.mono (by have := h.2.2.2; omega))⟩

set_option maxHeartbeats 2000000 in
theorem refin_any (w : World) (a b c d m : BitVec 64) :
    Calls Try.prog 24 #[.agg (⟨a, b, c, d⟩ : Sip4).vals, uV m] w fun e w' => e = .returned (.agg (inS ⟨a, b, c, d⟩ m).vals) ∧ Below w.heap.size w w' := by
  have HI : Hid (inS ⟨a, b, c, d⟩ m = (⟨(roundS (roundS ⟨a, b, c, d ^^^ m⟩)).a ^^^ m, (roundS (roundS ⟨a, b, c, d ^^^ m⟩)).b, (roundS (roundS ⟨a, b, c, d ^^^ m⟩)).c, (roundS (roundS ⟨a, b, c, d ^^^ m⟩)).d⟩ : Sip4)) := hide rfl
  unfold Sip4.vals uV
  go_enter Try.func24, Try.ntmps24
  go_wp2_with fail
  rw [c_xor]
  generalize (d ^^^ m) = x at HI ⊢
  have h0 := two4_new w a b c x 49
  generalize ((w.alloc (.cells #[.int .u64 (a.toNat : Int), .int .u64 (b.toNat : Int), .int .u64 (c.toNat : Int), .int .u64 (x.toNat : Int)] 49)).alloc (.cells #[.int .u64 0, .int .u64 0, .int .u64 0, .int .u64 0] 49)) = W0 at h0 ⊢
  refine (refsround_any W0 a b c x).mono ?_
  rintro e W1 ⟨rfl, hb1⟩
  generalize roundS ⟨a, b, c, x⟩ = t1 at HI ⊢
  obtain ⟨p, q, r, s⟩ := t1
  have H0 := hide h0
  have HB1 := hide hb1
  clear h0 hb1
  unfold Sip4.vals uV
  go_wp2_with fail
  refine (refsround_any W1 p q r s).mono ?_
  rintro e W2 ⟨rfl, hb2⟩
  generalize roundS ⟨p, q, r, s⟩ = t2 at HI ⊢
  obtain ⟨y0, y1, y2, y3⟩ := t2
  have hb12 : Below W0.heap.size W0 W2 := HB1.out.trans (hb2.mono HB1.out.size)
  obtain ⟨hS, hR, hB⟩ := H0.out.call hb12
  clear hb12 hb2 HB1 H0
  unfold Sip4.vals uV
  have k0 : W2.cell? ⟨w.heap.size, 0, none⟩ = some (.int .u64 (a.toNat : Int)) := hS.c0
  have f0 : W2.frozen? ⟨w.heap.size, 0, none⟩ = false := hS.fr 0
  have r0 : W2.cell? ⟨w.heap.size + 1, 0, none⟩ = some (.int .u64 0) := hR.c0
  have q0 : W2.frozen? ⟨w.heap.size + 1, 0, none⟩ = false := hR.fr 0
  have k1 : W2.cell? ⟨w.heap.size, 1, none⟩ = some (.int .u64 (b.toNat : Int)) := hS.c1
  have f1 : W2.frozen? ⟨w.heap.size, 1, none⟩ = false := hS.fr 1
  have r1 : W2.cell? ⟨w.heap.size + 1, 1, none⟩ = some (.int .u64 0) := hR.c1
  have q1 : W2.frozen? ⟨w.heap.size + 1, 1, none⟩ = false := hR.fr 1
  have k2 : W2.cell? ⟨w.heap.size, 2, none⟩ = some (.int .u64 (c.toNat : Int)) := hS.c2
  have f2 : W2.frozen? ⟨w.heap.size, 2, none⟩ = false := hS.fr 2
  have r2 : W2.cell? ⟨w.heap.size + 1, 2, none⟩ = some (.int .u64 0) := hR.c2
  have q2 : W2.frozen? ⟨w.heap.size + 1, 2, none⟩ = false := hR.fr 2
  have k3 : W2.cell? ⟨w.heap.size, 3, none⟩ = some (.int .u64 (x.toNat : Int)) := hS.c3
  have f3 : W2.frozen? ⟨w.heap.size, 3, none⟩ = false := hS.fr 3
  have r3 : W2.cell? ⟨w.heap.size + 1, 3, none⟩ = some (.int .u64 0) := hR.c3
  have q3 : W2.frozen? ⟨w.heap.size + 1, 3, none⟩ = false := hR.fr 3
  have HS := hide hS
  have HR := hide hR
  have HB := hide hB
  clear hS hR hB
  go_wp2_with fail
  rw [c_xor]
  have HZ : Hid (inS ⟨a, b, c, d⟩ m = (⟨y0 ^^^ m, y1, y2, y3⟩ : Sip4)) := hide (by rw [HI.out])
  clear HI
  generalize y0 ^^^ m = z at HZ ⊢
  have hF : StH (World.setCell (World.setCell (World.setCell (World.setCell (World.setCell (World.setCell (World.setCell (World.setCell (World.setCell W2 ⟨w.heap.size, 0, none⟩ (Value.int IntKind.u64 (y0.toNat : Int))) ⟨w.heap.size, 1, none⟩ (Value.int IntKind.u64 (y1.toNat : Int))) ⟨w.heap.size, 2, none⟩ (Value.int IntKind.u64 (y2.toNat : Int))) ⟨w.heap.size, 3, none⟩ (Value.int IntKind.u64 (y3.toNat : Int))) ⟨w.heap.size, 0, none⟩ (Value.int IntKind.u64 (z.toNat : Int))) ⟨w.heap.size + 1, 0, none⟩ (Value.int IntKind.u64 (z.toNat : Int))) ⟨w.heap.size + 1, 1, none⟩ (Value.int IntKind.u64 (y1.toNat : Int))) ⟨w.heap.size + 1, 2, none⟩ (Value.int IntKind.u64 (y2.toNat : Int))) ⟨w.heap.size + 1, 3, none⟩ (Value.int IntKind.u64 (y3.toNat : Int))) (w.heap.size + 1) 49 (⟨z, y1, y2, y3⟩ : Sip4) := (StH.set (s' := (⟨z, y1, y2, y3⟩ : Sip4)) (StH.set (s' := (⟨z, y1, y2, 0#64⟩ : Sip4)) (StH.set (s' := (⟨z, y1, 0#64, 0#64⟩ : Sip4)) (StH.set (s' := (⟨z, 0#64, 0#64, 0#64⟩ : Sip4)) (StH.other (StH.other (StH.other (StH.other (StH.other HR.out ⟨w.heap.size, 0, none⟩ _ (by simp)) ⟨w.heap.size, 1, none⟩ _ (by simp)) ⟨w.heap.size, 2, none⟩ _ (by simp)) ⟨w.heap.size, 3, none⟩ _ (by simp)) ⟨w.heap.size, 0, none⟩ _ (by simp)) 0 z rfl) 1 y1 rfl) 2 y2 rfl) 3 y3 rfl)
  have hBF : Below w.heap.size w (World.setCell (World.setCell (World.setCell (World.setCell (World.setCell (World.setCell (World.setCell (World.setCell (World.setCell W2 ⟨w.heap.size, 0, none⟩ (Value.int IntKind.u64 (y0.toNat : Int))) ⟨w.heap.size, 1, none⟩ (Value.int IntKind.u64 (y1.toNat : Int))) ⟨w.heap.size, 2, none⟩ (Value.int IntKind.u64 (y2.toNat : Int))) ⟨w.heap.size, 3, none⟩ (Value.int IntKind.u64 (y3.toNat : Int))) ⟨w.heap.size, 0, none⟩ (Value.int IntKind.u64 (z.toNat : Int))) ⟨w.heap.size + 1, 0, none⟩ (Value.int IntKind.u64 (z.toNat : Int))) ⟨w.heap.size + 1, 1, none⟩ (Value.int IntKind.u64 (y1.toNat : Int))) ⟨w.heap.size + 1, 2, none⟩ (Value.int IntKind.u64 (y2.toNat : Int))) ⟨w.heap.size + 1, 3, none⟩ (Value.int IntKind.u64 (y3.toNat : Int))) := (Below.setCell (Below.setCell (Below.setCell (Below.setCell (Below.setCell (Below.setCell (Below.setCell (Below.setCell (Below.setCell HB.out (p := ⟨w.heap.size, 0, none⟩) (by simp) _) (p := ⟨w.heap.size, 1, none⟩) (by simp) _) (p := ⟨w.heap.size, 2, none⟩) (by simp) _) (p := ⟨w.heap.size, 3, none⟩) (by simp) _) (p := ⟨w.heap.size, 0, none⟩) (by simp) _) (p := ⟨w.heap.size + 1, 0, none⟩) (by simp) _) (p := ⟨w.heap.size + 1, 1, none⟩) (by simp) _) (p := ⟨w.heap.size + 1, 2, none⟩) (by simp) _) (p := ⟨w.heap.size + 1, 3, none⟩) (by simp) _)
  generalize (World.setCell (World.setCell (World.setCell (World.setCell (World.setCell (World.setCell (World.setCell (World.setCell (World.setCell W2 ⟨w.heap.size, 0, none⟩ (Value.int IntKind.u64 (y0.toNat : Int))) ⟨w.heap.size, 1, none⟩ (Value.int IntKind.u64 (y1.toNat : Int))) ⟨w.heap.size, 2, none⟩ (Value.int IntKind.u64 (y2.toNat : Int))) ⟨w.heap.size, 3, none⟩ (Value.int IntKind.u64 (y3.toNat : Int))) ⟨w.heap.size, 0, none⟩ (Value.int IntKind.u64 (z.toNat : Int))) ⟨w.heap.size + 1, 0, none⟩ (Value.int IntKind.u64 (z.toNat : Int))) ⟨w.heap.size + 1, 1, none⟩ (Value.int IntKind.u64 (y1.toNat : Int))) ⟨w.heap.size + 1, 2, none⟩ (Value.int IntKind.u64 (y2.toNat : Int))) ⟨w.heap.size + 1, 3, none⟩ (Value.int IntKind.u64 (y3.toNat : Int))) = WF at hF hBF ⊢
  have z0 := hF.c0
  have z1 := hF.c1
  have z2 := hF.c2
  have z3 := hF.c3
  refine bodyPost_ret (v := .agg (⟨z, y1, y2, y3⟩ : Sip4).vals) (by simp [results, Try.results24, go_sem, z0, z1, z2, z3, Sip4.vals, uV]) rfl ⟨?_, hBF⟩
  rw [HZ.out]; rfl

theorem wordM_step (l : List UInt8) (k : Nat) (h : k < l.length) : 8 * (k / 8) + k % 8 = k := by omega
/-- bytes of which the first k have gone in: the state, and the word so far. -/
def SipIn (s0 : Sip4) (l : List UInt8) (k : Nat) (s : Sip4) (m : BitVec 64) : Prop :=
  bodyS s (l.drop (8 * (k / 8))) = bodyS s0 l ∧ m = wordB ((l.drop (8 * (k / 8))).take (k % 8))
theorem inS_start (s0 : Sip4) (l : List UInt8) : SipIn s0 l 0 s0 0#64 := ⟨by simp, by simp [wordB, wordF]⟩
theorem inS_some {s0 s : Sip4} {l : List UInt8} {k : Nat} {m : BitVec 64} (h : SipIn s0 l k s m) (hk : k < l.length) (h7 : k % 8 ≠ 7) : SipIn s0 l (k + 1) s (m ||| (BitVec.ofNat 64 l[k].toNat <<< (8 * (k % 8)))) := by
  have e : (k + 1) / 8 = k / 8 := by omega
  have e2 : (k + 1) % 8 = k % 8 + 1 := by omega
  refine ⟨by rw [e]; exact h.1, ?_⟩
  rw [e, e2, wordB_take (by rw [List.length_drop]; omega), h.2]
  congr 4
  rw [List.getElem_drop]; congr 1; omega
theorem inS_last {s0 s : Sip4} {l : List UInt8} {k : Nat} {m : BitVec 64} (h : SipIn s0 l k s m) (hk : k < l.length) (h7 : k % 8 = 7) : SipIn s0 l (k + 1) (inS s (m ||| (BitVec.ofNat 64 l[k].toNat <<< (8 * (k % 8))))) 0#64 := by
  have e : (k + 1) / 8 = k / 8 + 1 := by omega
  have e2 : (k + 1) % 8 = 0 := by omega
  have hw : m ||| (BitVec.ofNat 64 l[k].toNat <<< (8 * (k % 8))) = wordB ((l.drop (8 * (k / 8))).take 8) := by
    have e3 : k % 8 + 1 = 8 := by omega
    have hw2 := wordB_take (l := l.drop (8 * (k / 8))) (k := k % 8) (by rw [List.length_drop]; omega)
    rw [e3] at hw2
    rw [hw2, h.2]
    congr 4
    rw [List.getElem_drop]; congr 1; omega
  refine ⟨?_, ?_⟩
  · rw [hw, e, ← h.1, bodyS_more (l := l.drop (8 * (k / 8))) (by rw [List.length_drop]; omega), List.drop_drop]
    congr 2
  · rw [e2]; simp [wordB, wordF]
theorem inS_end {s0 s : Sip4} {l : List UInt8} {m : BitVec 64} (h : SipIn s0 l l.length s m) : bodyS s0 l = (s, l.drop (8 * (l.length / 8))) ∧ m = wordB (l.drop (8 * (l.length / 8))) := by
  refine ⟨?_, ?_⟩
  · rw [← h.1, bodyS_end (by rw [List.length_drop]; omega)]
  · rw [h.2, List.take_of_length_le (by rw [List.length_drop]; omega)]
end Go.Proofs.Ytlcgciafclfoeaa

end
section
/-
  The walk of the document's own Sip.
-/
namespace Go.Proofs.Ytlcgciafclfoeaa
open Go.RowKit
set_option linter.unusedVariables false

theorem start_rit0 (k : BitVec 64) : bits .xor .u64 8317987319222330741 (k.toNat : Int) = ((k ^^^ 8317987319222330741#64).toNat : Int) := by rw [BitVec.xor_comm]; exact c_xor 8317987319222330741#64 k
theorem start_rit1 (k : BitVec 64) : bits .xor .u64 7237128888997146477 (k.toNat : Int) = ((k ^^^ 7237128888997146477#64).toNat : Int) := by rw [BitVec.xor_comm]; exact c_xor 7237128888997146477#64 k
theorem start_rit2 (k : BitVec 64) : bits .xor .u64 7816392313619706465 (k.toNat : Int) = ((k ^^^ 7816392313619706465#64).toNat : Int) := by rw [BitVec.xor_comm]; exact c_xor 7816392313619706465#64 k
theorem start_rit3 (k : BitVec 64) : bits .xor .u64 8387220255154660723 (k.toNat : Int) = ((k ^^^ 8387220255154660723#64).toNat : Int) := by rw [BitVec.xor_comm]; exact c_xor 8387220255154660723#64 k

set_option maxHeartbeats 2000000 in
theorem refsip_any (k0 k1 : BitVec 64) (A : Option Addr) (c : Nat) (l : List UInt8) (B : Nat) (w : World) (hn47 : l.length ≤ 140737488355328) (hb : Byt w B A l) (hB : B ≤ w.heap.size) :
    Calls Try.prog 10 #[uV k0, uV k1, .slice A l.length c] w fun e w' => e = .returned (uV (sipB k0 k1 l)) ∧ Below w.heap.size w w' := by
  obtain ⟨n, hn⟩ : ∃ n, n = l.length := ⟨_, rfl⟩
  rw [← hn] at hn47 ⊢
  have hlen := hide hn
  clear hn
  unfold uV
  go_enter Try.func10, Try.ntmps10
  go_wp2
  rw [start_rit0, start_rit1, start_rit2, start_rit3]
  have hS0 : StH (w.alloc (.cells #[.int .u64 ((k0 ^^^ 8317987319222330741#64).toNat : Int), .int .u64 ((k1 ^^^ 7237128888997146477#64).toNat : Int), .int .u64 ((k0 ^^^ 7816392313619706465#64).toNat : Int), .int .u64 ((k1 ^^^ 8387220255154660723#64).toNat : Int)] 49)) w.heap.size 49 (startS k0 k1) := heap_alloc_new w _
  have hB0 : Below w.heap.size w (w.alloc (.cells #[.int .u64 ((k0 ^^^ 8317987319222330741#64).toNat : Int), .int .u64 ((k1 ^^^ 7237128888997146477#64).toNat : Int), .int .u64 ((k0 ^^^ 7816392313619706465#64).toNat : Int), .int .u64 ((k1 ^^^ 8387220255154660723#64).toNat : Int)] 49)) := (Below.refl _ _).alloc (Nat.le_refl _) _
  have hZ0 : w.heap.size < (w.alloc (.cells #[.int .u64 ((k0 ^^^ 8317987319222330741#64).toNat : Int), .int .u64 ((k1 ^^^ 7237128888997146477#64).toNat : Int), .int .u64 ((k0 ^^^ 7816392313619706465#64).toNat : Int), .int .u64 ((k1 ^^^ 8387220255154660723#64).toNat : Int)] 49)).heap.size := by simp
  have HFIN : Hid (sipB k0 k1 l = sipEnd (bodyS (startS k0 k1) l).1 (bodyS (startS k0 k1) l).2 n) := hide (by rw [hlen.out]; rfl)
  generalize startS k0 k1 = s0 at hS0 HFIN
  generalize (w.alloc (.cells #[.int .u64 ((k0 ^^^ 8317987319222330741#64).toNat : Int), .int .u64 ((k1 ^^^ 7237128888997146477#64).toNat : Int), .int .u64 ((k0 ^^^ 7816392313619706465#64).toNat : Int), .int .u64 ((k1 ^^^ 8387220255154660723#64).toNat : Int)] 49)) = W0 at hS0 hB0 hZ0 ⊢
  have HS0 := hide hS0
  have HB0 := hide hB0
  have HBY := hide hb
  generalize (k0 ^^^ 8317987319222330741#64) = q0
  generalize (k1 ^^^ 7237128888997146477#64) = q1
  generalize (k0 ^^^ 7816392313619706465#64) = q2
  generalize (k1 ^^^ 8387220255154660723#64) = q3
  clear hS0 hB0 hb hZ0
  go_loopw [8, 9] (fun v i wr => ∃ (k : Nat) (m : BitVec 64) (s : Sip4), k ≤ n ∧ i = .int .i64 (k : Int) ∧ v = .int .u64 (m.toNat : Int) ∧ Hid (SipIn s0 l k s m) ∧ Hid (StH wr w.heap.size 49 s) ∧ Hid (Below w.heap.size w wr))
    (fun _ i _ => n - (intOf i).toNat)
  case atStart => exact ⟨0, 0#64, s0, by omega, rfl, rfl, hide (inS_start s0 l), HS0, HB0⟩
  case round =>
    obtain ⟨k, m, s, hk, rfl, rfl, hin, hst, hbel⟩ := hrel
    have hby := hide (HBY.out.below (hbel.out.mono hB))
    clear HS0 HB0
    by_cases hlt : k < n
    · obtain ⟨b, off, rfl, hbB, hcell⟩ := hby.out (by have := hlen.out; omega)
      have hkl : k < l.length := by have := hlen.out; omega
      obtain ⟨x, hx0⟩ : ∃ x, x = l[k]'hkl := ⟨_, rfl⟩
      have hx : x.toNat ≤ 255 := by have := x.toNat_lt; omega
      have hc0 : wr.cell? ⟨b, off + k, none⟩ = some (.int .u8 (x.toNat : Int)) := by rw [hx0]; exact hcell k _
      obtain ⟨r, hr⟩ : ∃ r, r = k % 8 := ⟨_, rfl⟩
      have e8 : (k : Int) % 8 = (r : Int) := by omega
      have hr8 : r < 8 := by omega
      have ht := shl_cast x r hr8
      have hcm := c_or m (BitVec.ofNat 64 x.toNat <<< (8 * r))
      by_cases h7 : r = 7
      · have hI := inS_last hin.out hkl (by omega)
        rw [← hr, ← hx0] at hI
        subst h7
        have hM : bits .or .u64 (m.toNat : Int) ((x.toNat : Int) * 72057594037927936) = ((m ||| (BitVec.ofNat 64 x.toNat <<< (8 * 7))).toNat : Int) := by
          rw [← hcm, ← ht]
          congr 1
          rw [IntKind.wrap_u64]; omega
        have HM := hide hM
        generalize (m ||| (BitVec.ofNat 64 x.toNat <<< (8 * 7))) = M at HM hI
        obtain ⟨sa, sb, sc, sd⟩ := s
        have hS := hst.out
        have kk0 : wr.cell? ⟨w.heap.size, 0, none⟩ = some (.int .u64 (sa.toNat : Int)) := hS.c0
        have fkk0 : wr.frozen? ⟨w.heap.size, 0, none⟩ = false := hS.fr 0
        have kk1 : wr.cell? ⟨w.heap.size, 1, none⟩ = some (.int .u64 (sb.toNat : Int)) := hS.c1
        have fkk1 : wr.frozen? ⟨w.heap.size, 1, none⟩ = false := hS.fr 1
        have kk2 : wr.cell? ⟨w.heap.size, 2, none⟩ = some (.int .u64 (sc.toNat : Int)) := hS.c2
        have fkk2 : wr.frozen? ⟨w.heap.size, 2, none⟩ = false := hS.fr 2
        have kk3 : wr.cell? ⟨w.heap.size, 3, none⟩ = some (.int .u64 (sd.toNat : Int)) := hS.c3
        have fkk3 : wr.frozen? ⟨w.heap.size, 3, none⟩ = false := hS.fr 3
        have HI := hide hI
        have HR := hide hr
        clear hI ht hcm hcell hx0 hkl hr hin hr8 hS hM
        go_wp2_with fail
        rw [HM.out]
        refine (refin_any wr sa sb sc sd M).mono ?_
        rintro e w1 ⟨rfl, hb1⟩
        generalize inS ⟨sa, sb, sc, sd⟩ M = t at HI ⊢
        obtain ⟨t0, t1, t2, t3⟩ := t
        have hS1 : StH w1 w.heap.size 49 ⟨sa, sb, sc, sd⟩ := (hb1.block _ hst.out.lt).trans hst.out
        have hB1 := hbel.out.trans (hb1.mono (Nat.le_of_lt hst.out.lt))
        clear kk0 kk1 kk2 kk3 fkk0 fkk1 fkk2 fkk3
        have hF : StH (World.setCell (World.setCell (World.setCell (World.setCell w1 ⟨w.heap.size, 0, none⟩ (Value.int IntKind.u64 (t0.toNat : Int))) ⟨w.heap.size, 1, none⟩ (Value.int IntKind.u64 (t1.toNat : Int))) ⟨w.heap.size, 2, none⟩ (Value.int IntKind.u64 (t2.toNat : Int))) ⟨w.heap.size, 3, none⟩ (Value.int IntKind.u64 (t3.toNat : Int))) w.heap.size 49 (⟨t0, t1, t2, t3⟩ : Sip4) := (StH.set (s' := (⟨t0, t1, t2, t3⟩ : Sip4)) (StH.set (s' := (⟨t0, t1, t2, sd⟩ : Sip4)) (StH.set (s' := (⟨t0, t1, sc, sd⟩ : Sip4)) (StH.set (s' := (⟨t0, sb, sc, sd⟩ : Sip4)) hS1 0 t0 rfl) 1 t1 rfl) 2 t2 rfl) 3 t3 rfl)
        have hBF : Below w.heap.size w (World.setCell (World.setCell (World.setCell (World.setCell w1 ⟨w.heap.size, 0, none⟩ (Value.int IntKind.u64 (t0.toNat : Int))) ⟨w.heap.size, 1, none⟩ (Value.int IntKind.u64 (t1.toNat : Int))) ⟨w.heap.size, 2, none⟩ (Value.int IntKind.u64 (t2.toNat : Int))) ⟨w.heap.size, 3, none⟩ (Value.int IntKind.u64 (t3.toNat : Int))) := (Below.setCell (Below.setCell (Below.setCell (Below.setCell hB1 (p := ⟨w.heap.size, 0, none⟩) (Nat.le_refl _) _) (p := ⟨w.heap.size, 1, none⟩) (Nat.le_refl _) _) (p := ⟨w.heap.size, 2, none⟩) (Nat.le_refl _) _) (p := ⟨w.heap.size, 3, none⟩) (Nat.le_refl _) _)
        have jj0 : w1.cell? ⟨w.heap.size, 0, none⟩ = some (.int .u64 (sa.toNat : Int)) := hS1.c0
        have fjj0 : w1.frozen? ⟨w.heap.size, 0, none⟩ = false := hS1.fr 0
        have jj1 : w1.cell? ⟨w.heap.size, 1, none⟩ = some (.int .u64 (sb.toNat : Int)) := hS1.c1
        have fjj1 : w1.frozen? ⟨w.heap.size, 1, none⟩ = false := hS1.fr 1
        have jj2 : w1.cell? ⟨w.heap.size, 2, none⟩ = some (.int .u64 (sc.toNat : Int)) := hS1.c2
        have fjj2 : w1.frozen? ⟨w.heap.size, 2, none⟩ = false := hS1.fr 2
        have jj3 : w1.cell? ⟨w.heap.size, 3, none⟩ = some (.int .u64 (sd.toNat : Int)) := hS1.c3
        have fjj3 : w1.frozen? ⟨w.heap.size, 3, none⟩ = false := hS1.fr 3
        have HF := hide hF
        have HBF := hide hBF
        clear hS1 hB1 hb1 hF hBF
        unfold Sip4.vals uV
        go_wp2
        go_roundw
        case rel => exact ⟨k + 1, 0#64, ⟨t0, t1, t2, t3⟩, by omega, by go_num, rfl, HI, HF, HBF⟩
        case measure => simp [intOf]; omega
      · have hI := inS_some hin.out hkl (by omega)
        rw [← hr, ← hx0] at hI
        rw [← ht] at hcm
        have HM := hide hcm
        generalize (m ||| (BitVec.ofNat 64 x.toNat <<< (8 * r))) = M at HM hI
        have hn7 : ((r : Int) == 7) = false := by simp; omega
        have HI := hide hI
        have HR := hide hr
        clear hI ht hcm hcell hx0 hkl hr hin
        go_wp2
        go_roundw
        case rel => exact ⟨k + 1, M, s, by omega, by go_num, by rw [HM.out], HI, hst, hbel⟩
        case measure => simp [intOf]; omega
    · have hkn : k = l.length := by have := hlen.out; omega
      subst hkn
      obtain ⟨hE1, hE2⟩ := inS_end hin.out
      have hFIN := HFIN.out
      rw [hE1] at hFIN
      have hm : m ||| (BitVec.ofNat 64 n <<< 56) = wordB (l.drop (8 * (l.length / 8))) ||| (BitVec.ofNat 64 n <<< 56) := by rw [hE2]
      have hM : bits .or .u64 (m.toNat : Int) ((((n % 256 : Nat) : Int)) * 72057594037927936) = ((m ||| (BitVec.ofNat 64 n <<< 56)).toNat : Int) := by
        rw [← ofNat_mod_shift n]
        have e : (((n % 256 : Nat) : Int)) = ((BitVec.ofNat 64 (n % 256)).toNat : Int) := by rw [BitVec.toNat_ofNat, Nat.mod_eq_of_lt (show n % 256 < 2 ^ 64 by omega)]
        have e2 := c_shl (BitVec.ofNat 64 (n % 256)) 56 72057594037927936 (by decide)
        rw [← c_or, ← e2, ← e, IntKind.wrap_u64]
        congr 1
        omega
      obtain ⟨r, hr⟩ : ∃ r, r = n % 256 := ⟨_, rfl⟩
      have e8 : (n : Int) % 256 = (r : Int) := by omega
      have hr8 : r < 256 := by omega
      rw [← hr] at hM
      have HM := hide hM
      have HE : Hid (sipB k0 k1 l = (roundsS 4 ⟨(inS s (m ||| (BitVec.ofNat 64 n <<< 56))).a, (inS s (m ||| (BitVec.ofNat 64 n <<< 56))).b, (inS s (m ||| (BitVec.ofNat 64 n <<< 56))).c ^^^ 255#64, (inS s (m ||| (BitVec.ofNat 64 n <<< 56))).d⟩).a ^^^ (roundsS 4 ⟨(inS s (m ||| (BitVec.ofNat 64 n <<< 56))).a, (inS s (m ||| (BitVec.ofNat 64 n <<< 56))).b, (inS s (m ||| (BitVec.ofNat 64 n <<< 56))).c ^^^ 255#64, (inS s (m ||| (BitVec.ofNat 64 n <<< 56))).d⟩).b ^^^ (roundsS 4 ⟨(inS s (m ||| (BitVec.ofNat 64 n <<< 56))).a, (inS s (m ||| (BitVec.ofNat 64 n <<< 56))).b, (inS s (m ||| (BitVec.ofNat 64 n <<< 56))).c ^^^ 255#64, (inS s (m ||| (BitVec.ofNat 64 n <<< 56))).d⟩).c ^^^ (roundsS 4 ⟨(inS s (m ||| (BitVec.ofNat 64 n <<< 56))).a, (inS s (m ||| (BitVec.ofNat 64 n <<< 56))).b, (inS s (m ||| (BitVec.ofNat 64 n <<< 56))).c ^^^ 255#64, (inS s (m ||| (BitVec.ofNat 64 n <<< 56))).d⟩).d) := hide (by rw [hFIN]; unfold sipEnd; rw [hm])
      generalize (m ||| (BitVec.ofNat 64 n <<< 56)) = M at HM HE
      obtain ⟨sa, sb, sc, sd⟩ := s
      have hS := hst.out
      have kk0 : wr.cell? ⟨w.heap.size, 0, none⟩ = some (.int .u64 (sa.toNat : Int)) := hS.c0
      have fkk0 : wr.frozen? ⟨w.heap.size, 0, none⟩ = false := hS.fr 0
      have kk1 : wr.cell? ⟨w.heap.size, 1, none⟩ = some (.int .u64 (sb.toNat : Int)) := hS.c1
      have fkk1 : wr.frozen? ⟨w.heap.size, 1, none⟩ = false := hS.fr 1
      have kk2 : wr.cell? ⟨w.heap.size, 2, none⟩ = some (.int .u64 (sc.toNat : Int)) := hS.c2
      have fkk2 : wr.frozen? ⟨w.heap.size, 2, none⟩ = false := hS.fr 2
      have kk3 : wr.cell? ⟨w.heap.size, 3, none⟩ = some (.int .u64 (sd.toNat : Int)) := hS.c3
      have fkk3 : wr.frozen? ⟨w.heap.size, 3, none⟩ = false := hS.fr 3
      clear hE1 hE2 hFIN hm hM hr hin HFIN hS
      have hnl : ¬ (l.length : Int) < (n : Int) := by have := hlen.out; omega
      have hkn : Hid (l.length = n) := hide hlen.out.symm
      generalize l.length = kl at hnl hk hlt hkn ⊢
      go_wp2_with fail
      rw [HM.out]
      refine (refin_any wr sa sb sc sd M).mono ?_
      rintro e w1 ⟨rfl, hb1⟩
      generalize inS ⟨sa, sb, sc, sd⟩ M = t at HE ⊢
      obtain ⟨t0, t1, t2, t3⟩ := t
      have hS1 : StH w1 w.heap.size 49 ⟨sa, sb, sc, sd⟩ := (hb1.block _ hst.out.lt).trans hst.out
      have hB1 := hbel.out.trans (hb1.mono (Nat.le_of_lt hst.out.lt))
      clear kk0 kk1 kk2 kk3 fkk0 fkk1 fkk2 fkk3
      have e255 : bits .xor .u64 (t2.toNat : Int) 255 = ((t2 ^^^ 255#64).toNat : Int) := c_xor t2 255#64
      obtain ⟨y, hy⟩ : ∃ y, y = t2 ^^^ 255#64 := ⟨_, rfl⟩
      rw [← hy] at e255
      simp only [] at HE
      rw [← hy] at HE
      have jj0 : w1.cell? ⟨w.heap.size, 0, none⟩ = some (.int .u64 (sa.toNat : Int)) := hS1.c0
      have fjj0 : w1.frozen? ⟨w.heap.size, 0, none⟩ = false := hS1.fr 0
      have jj1 : w1.cell? ⟨w.heap.size, 1, none⟩ = some (.int .u64 (sb.toNat : Int)) := hS1.c1
      have fjj1 : w1.frozen? ⟨w.heap.size, 1, none⟩ = false := hS1.fr 1
      have jj2 : w1.cell? ⟨w.heap.size, 2, none⟩ = some (.int .u64 (sc.toNat : Int)) := hS1.c2
      have fjj2 : w1.frozen? ⟨w.heap.size, 2, none⟩ = false := hS1.fr 2
      have jj3 : w1.cell? ⟨w.heap.size, 3, none⟩ = some (.int .u64 (sd.toNat : Int)) := hS1.c3
      have fjj3 : w1.frozen? ⟨w.heap.size, 3, none⟩ = false := hS1.fr 3
      have HF : Hid (StH (World.setCell (World.setCell (World.setCell (World.setCell (World.setCell w1 ⟨w.heap.size, 0, none⟩ (Value.int IntKind.u64 (t0.toNat : Int))) ⟨w.heap.size, 1, none⟩ (Value.int IntKind.u64 (t1.toNat : Int))) ⟨w.heap.size, 2, none⟩ (Value.int IntKind.u64 (t2.toNat : Int))) ⟨w.heap.size, 3, none⟩ (Value.int IntKind.u64 (t3.toNat : Int))) ⟨w.heap.size, 2, none⟩ (Value.int IntKind.u64 (y.toNat : Int))) w.heap.size 49 (⟨t0, t1, y, t3⟩ : Sip4)) := hide (StH.set (s' := (⟨t0, t1, y, t3⟩ : Sip4)) (StH.set (s' := (⟨t0, t1, t2, t3⟩ : Sip4)) (StH.set (s' := (⟨t0, t1, t2, sd⟩ : Sip4)) (StH.set (s' := (⟨t0, t1, sc, sd⟩ : Sip4)) (StH.set (s' := (⟨t0, sb, sc, sd⟩ : Sip4)) hS1 0 t0 rfl) 1 t1 rfl) 2 t2 rfl) 3 t3 rfl) 2 y rfl)
      have HBF : Hid (Below w.heap.size w (World.setCell (World.setCell (World.setCell (World.setCell (World.setCell w1 ⟨w.heap.size, 0, none⟩ (Value.int IntKind.u64 (t0.toNat : Int))) ⟨w.heap.size, 1, none⟩ (Value.int IntKind.u64 (t1.toNat : Int))) ⟨w.heap.size, 2, none⟩ (Value.int IntKind.u64 (t2.toNat : Int))) ⟨w.heap.size, 3, none⟩ (Value.int IntKind.u64 (t3.toNat : Int))) ⟨w.heap.size, 2, none⟩ (Value.int IntKind.u64 (y.toNat : Int)))) := hide (Below.setCell (Below.setCell (Below.setCell (Below.setCell (Below.setCell hB1 (p := ⟨w.heap.size, 0, none⟩) (Nat.le_refl _) _) (p := ⟨w.heap.size, 1, none⟩) (Nat.le_refl _) _) (p := ⟨w.heap.size, 2, none⟩) (Nat.le_refl _) _) (p := ⟨w.heap.size, 3, none⟩) (Nat.le_refl _) _) (p := ⟨w.heap.size, 2, none⟩) (Nat.le_refl _) _)
      have HX := hide e255
      clear hS1 hB1 hb1 hy e255
      unfold Sip4.vals uV
      go_upto_region 12 with (fail)
      rw [HX.out]
      have hF := HF.out
      have hBF := HBF.out
      generalize (World.setCell (World.setCell (World.setCell (World.setCell (World.setCell w1 ⟨w.heap.size, 0, none⟩ (Value.int IntKind.u64 (t0.toNat : Int))) ⟨w.heap.size, 1, none⟩ (Value.int IntKind.u64 (t1.toNat : Int))) ⟨w.heap.size, 2, none⟩ (Value.int IntKind.u64 (t2.toNat : Int))) ⟨w.heap.size, 3, none⟩ (Value.int IntKind.u64 (t3.toNat : Int))) ⟨w.heap.size, 2, none⟩ (Value.int IntKind.u64 (y.toNat : Int))) = w2 at hF hBF ⊢
      have HSz := hide hF.lt
      clear HF HBF jj0 jj1 jj2 jj3 fjj0 fjj1 fjj2 fjj3
      have ll0 : w2.cell? ⟨w.heap.size, 0, none⟩ = some (.int .u64 (t0.toNat : Int)) := hF.c0
      have fll0 : w2.frozen? ⟨w.heap.size, 0, none⟩ = false := hF.fr 0
      have ll1 : w2.cell? ⟨w.heap.size, 1, none⟩ = some (.int .u64 (t1.toNat : Int)) := hF.c1
      have fll1 : w2.frozen? ⟨w.heap.size, 1, none⟩ = false := hF.fr 1
      have ll2 : w2.cell? ⟨w.heap.size, 2, none⟩ = some (.int .u64 (y.toNat : Int)) := hF.c2
      have fll2 : w2.frozen? ⟨w.heap.size, 2, none⟩ = false := hF.fr 2
      have ll3 : w2.cell? ⟨w.heap.size, 3, none⟩ = some (.int .u64 (t3.toNat : Int)) := hF.c3
      have fll3 : w2.frozen? ⟨w.heap.size, 3, none⟩ = false := hF.fr 3
      go_wp2_with fail
      clear ll0 ll1 ll2 ll3 fll0 fll1 fll2 fll3
      refine (refsround_any w2 t0 t1 y t3).mono ?_
      rintro e w3 ⟨rfl, hb0⟩
      obtain ⟨R0, hR0⟩ : ∃ R, R = roundS ⟨t0, t1, y, t3⟩ := ⟨_, rfl⟩
      rw [← hR0]
      obtain ⟨p0, q0, r0, s0⟩ := R0
      have HR0 := hide hR0
      have HBB0 := hide hb0
      clear hR0 hb0
      unfold Sip4.vals uV
      go_wp2_with fail
      refine (refsround_any w3 p0 q0 r0 s0).mono ?_
      rintro e w4 ⟨rfl, hb1⟩
      obtain ⟨R1, hR1⟩ : ∃ R, R = roundS ⟨p0, q0, r0, s0⟩ := ⟨_, rfl⟩
      rw [← hR1]
      obtain ⟨p1, q1, r1, s1⟩ := R1
      have HR1 := hide hR1
      have HBB1 := hide hb1
      clear hR1 hb1
      unfold Sip4.vals uV
      go_wp2_with fail
      refine (refsround_any w4 p1 q1 r1 s1).mono ?_
      rintro e w5 ⟨rfl, hb2⟩
      obtain ⟨R2, hR2⟩ : ∃ R, R = roundS ⟨p1, q1, r1, s1⟩ := ⟨_, rfl⟩
      rw [← hR2]
      obtain ⟨p2, q2, r2, s2⟩ := R2
      have HR2 := hide hR2
      have HBB2 := hide hb2
      clear hR2 hb2
      unfold Sip4.vals uV
      go_wp2_with fail
      refine (refsround_any w5 p2 q2 r2 s2).mono ?_
      rintro e w6 ⟨rfl, hb3⟩
      obtain ⟨R3, hR3⟩ : ∃ R, R = roundS ⟨p2, q2, r2, s2⟩ := ⟨_, rfl⟩
      rw [← hR3]
      obtain ⟨p3, q3, r3, s3⟩ := R3
      have HR3 := hide hR3
      have HBB3 := hide hb3
      clear hR3 hb3
      unfold Sip4.vals uV
      have hbb : Below w2.heap.size w2 w6 := HBB0.out.trans ((HBB1.out.mono HBB0.out.size).trans ((HBB2.out.mono (Nat.le_trans HBB0.out.size HBB1.out.size)).trans (HBB3.out.mono (Nat.le_trans HBB0.out.size (Nat.le_trans HBB1.out.size HBB2.out.size)))))
      have hS6 : StH w6 w.heap.size 49 ⟨t0, t1, y, t3⟩ := (hbb.block _ HSz.out).trans hF
      have hB6 := hBF.trans (hbb.mono (Nat.le_of_lt HSz.out))
      have jj0 : w6.cell? ⟨w.heap.size, 0, none⟩ = some (.int .u64 (t0.toNat : Int)) := hS6.c0
      have fjj0 : w6.frozen? ⟨w.heap.size, 0, none⟩ = false := hS6.fr 0
      have jj1 : w6.cell? ⟨w.heap.size, 1, none⟩ = some (.int .u64 (t1.toNat : Int)) := hS6.c1
      have fjj1 : w6.frozen? ⟨w.heap.size, 1, none⟩ = false := hS6.fr 1
      have jj2 : w6.cell? ⟨w.heap.size, 2, none⟩ = some (.int .u64 (y.toNat : Int)) := hS6.c2
      have fjj2 : w6.frozen? ⟨w.heap.size, 2, none⟩ = false := hS6.fr 2
      have jj3 : w6.cell? ⟨w.heap.size, 3, none⟩ = some (.int .u64 (t3.toNat : Int)) := hS6.c3
      have fjj3 : w6.frozen? ⟨w.heap.size, 3, none⟩ = false := hS6.fr 3
      have HBF : Hid (Below w.heap.size w (World.setCell (World.setCell (World.setCell (World.setCell w6 ⟨w.heap.size, 0, none⟩ (Value.int IntKind.u64 (p3.toNat : Int))) ⟨w.heap.size, 1, none⟩ (Value.int IntKind.u64 (q3.toNat : Int))) ⟨w.heap.size, 2, none⟩ (Value.int IntKind.u64 (r3.toNat : Int))) ⟨w.heap.size, 3, none⟩ (Value.int IntKind.u64 (s3.toNat : Int)))) := hide (Below.setCell (Below.setCell (Below.setCell (Below.setCell hB6 (p := ⟨w.heap.size, 0, none⟩) (Nat.le_refl _) _) (p := ⟨w.heap.size, 1, none⟩) (Nat.le_refl _) _) (p := ⟨w.heap.size, 2, none⟩) (Nat.le_refl _) _) (p := ⟨w.heap.size, 3, none⟩) (Nat.le_refl _) _)
      have hr4 : roundsS 4 ⟨t0, t1, y, t3⟩ = ⟨p3, q3, r3, s3⟩ := by
        show roundS (roundS (roundS (roundS ⟨t0, t1, y, t3⟩))) = _
        rw [← HR0.out, ← HR1.out, ← HR2.out, ← HR3.out]
      rw [hr4] at HE
      clear hbb hS6 hB6 hF hBF hr4 HR0 HR1 HR2 HR3 HBB0 HBB1 HBB2 HBB3
      go_wp2
      go_ret
      exact ⟨ret_int (by rw [c_xor, c_xor, c_xor, HE.out]), HBF.out⟩
end Go.Proofs.Ytlcgciafclfoeaa

end
section
/-
  The fixed calls of steelyardlaw09.
-/
namespace Go.Proofs.Ytlcgciafclfoeaa
open Go.RowKit
set_option linter.unusedVariables false

def upBytes (k : Nat) : List UInt8 := (List.range k).map UInt8.ofNat
theorem up_length (k : Nat) : (upBytes k).length = k := by simp [upBytes]
theorem up_succ (k : Nat) : upBytes (k + 1) = upBytes k ++ [UInt8.ofNat k] := by simp [upBytes, List.range_succ]
theorem sip_fixed : sipB 506097522914230528#64 1084818905618843912#64 (upBytes 15) = 11613035633349379557#64 := by
  unfold sipB
  rw [bodyS_more (by decide), bodyS_end (by decide)]
  decide +kernel
theorem mix_fixed : mixB 0#64 = 16294208416658607535#64 := by decide +kernel

set_option maxHeartbeats 2000000 in
theorem knownH_any (w : World) : Calls Try.prog 12 #[] w fun e w' => e = .returned (.bool true) ∧ Below w.heap.size w w' := by
  go_enter Try.func12, Try.ntmps12
  go_wp2
  go_loopw [1, 2] (fun v i wr => ∃ k : Nat, k ≤ 15 ∧ i = .int .i64 (k : Int) ∧ Hid (OwnB wr w.heap.size v (upBytes k)) ∧ Hid (Below w.heap.size w wr)) (fun _ i _ => 15 - (intOf i).toNat)
  case atStart => exact ⟨0, by omega, rfl, hide (OwnB.nil _ _), hide (Below.refl _ _)⟩
  case round =>
    obtain ⟨k, hk, rfl, hown, hbel⟩ := hrel
    by_cases hlt : k < 15
    · have hx : ((UInt8.ofNat k).toNat : Int) = (k : Int) := by
        rw [UInt8.toNat_ofNat_of_lt' (by show k < 256; omega)]
      have hL : Hid (Byt (wr.alloc (.cells #[.int .u8 (k : Int)] 5)) (wr.heap.size + 1) (some ⟨wr.heap.size, 0, none⟩) [UInt8.ofNat k]) := hide (Byt.lit wr [UInt8.ofNat k] #[.int .u8 (k : Int)] 5 (0, 0) (by rw [← hx]; rfl))
      have hO : Hid (OwnB (wr.alloc (.cells #[.int .u8 (k : Int)] 5)) w.heap.size u1 (upBytes k)) := hide (hown.out.alloc _)
      have hZ : Hid (w.heap.size ≤ (wr.alloc (.cells #[.int .u8 (k : Int)] 5)).heap.size) := hide (by have := hbel.out.size; simp; omega)
      clear hx
      go_wp2_with (at_builtin; refine wpList_app_bytes rfl (.tmp 7) (.tmp 10) rfl w.heap.size u1 (upBytes k) [UInt8.ofNat k] (wr.heap.size + 1) 1 (some ⟨wr.heap.size, 0, none⟩) rfl rfl hO.out hL.out (fun e => by cases e) (by rw [up_length]; simp; omega) hZ.out ?_)
      intro v5 w5 hown5 hgrow5 hat5
      rw [← up_succ] at hown5
      have HO5 := hide hown5
      have HB5 : Hid (Below w.heap.size w w5) := hide ((hbel.out.alloc (by have := hbel.out.size; omega) _).grown hgrow5 hZ.out (fun g hg => (World.ownsRow.lt hown.out g hg).1))
      clear hown5 hgrow5 hat5 hL hO hZ hown hbel
      go_wp2
      go_roundw
      case rel => exact ⟨k + 1, by omega, by go_num, HO5, HB5⟩
      case measure => simp [intOf]; omega
    · obtain rfl : k = 15 := by omega
      clear hlt
      obtain ⟨A, c, rfl, hlc, hby, hnil, -⟩ := hown.out.shape
      have HC := hide (sip_any 506097522914230528#64 1084818905618843912#64 A c (upBytes 15) wr.heap.size wr hlc (by rw [up_length]; omega) hby (Nat.le_refl _))
      have HM := hide (mix_any 0#64)
      have HP := hide (port_any 16385#64)
      clear hlc hby hnil hown
      go_wp2_with fail
      refine HC.out.mono ?_
      rintro e w1 ⟨rfl, hb1⟩
      rw [sip_fixed]
      have HB1 := hide (hbel.out.trans (hb1.mono hbel.out.size))
      clear hb1 HC
      unfold uV
      go_wp2_with fail
      refine (HM.out w1).mono ?_
      rintro e w2 ⟨rfl, rfl⟩
      rw [mix_fixed]
      unfold uV
      go_wp2_with fail
      refine (HP.out w1).mono ?_
      rintro e w2 ⟨rfl, rfl⟩
      go_wp2
      go_ret
      exact ⟨rfl, HB1.out⟩
end Go.Proofs.Ytlcgciafclfoeaa

end
